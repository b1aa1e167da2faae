package tests

import (
	"fmt"
	"testing"

	"loop.example/differenceengine/impl"
)

func TestBinomial(t *testing.T) {
	for n := -200; n <= 200; n++ {
		for k := range 7 {
			if got, ok := impl.Binomial(n, k); got != toInt(chosen(n, k)) || !ok {
				t.Errorf("Binomial(%d, %d) = %d, %v; want %d", n, k, got, ok, chosen(n, k))
			}
		}
	}
	none := func(n, k int) {
		if got, ok := impl.Binomial(n, k); got != 0 || ok {
			t.Errorf("Binomial(%d, %d) = %d, %v; want 0, false", n, k, got, ok)
		}
	}
	for _, n := range notArguments {
		for k := -1; k <= 7; k++ {
			none(n, k)
		}
	}
	for _, k := range []int{-1, 7, 8, -6, 100, minInt, maxInt} {
		for _, n := range arguments() {
			none(n, k)
		}
	}
}

// Known binomials, so that no mistake of the helper is the program's too.
func TestKnownBinomials(t *testing.T) {
	for _, c := range []struct{ n, k, want int }{
		{0, 0, 1}, {200, 0, 1}, {-200, 0, 1}, {0, 1, 0}, {5, 2, 10}, {6, 6, 1}, {5, 6, 0}, {1, 6, 0}, {6, 3, 20},
		{-1, 1, -1}, {-1, 2, 1}, {-1, 6, 1}, {-1, 5, -1}, {-2, 3, -4}, {-3, 2, 6}, {-200, 1, -200},
		{200, 2, 19900}, {200, 6, 82408626300}, {-200, 2, 20100}, {-200, 5, -2802350040}, {-200, 6, 95746959700},
	} {
		if got, ok := impl.Binomial(c.n, c.k); got != c.want || !ok {
			t.Errorf("Binomial(%d, %d) = %d, %v; want %d", c.n, c.k, got, ok, c.want)
		}
	}
}

func TestPolyValid(t *testing.T) {
	for _, p := range samplePolys() {
		if !impl.PolyValid(p) {
			t.Errorf("PolyValid(%v) = false", p)
		}
	}
	for _, p := range notPolys() {
		if impl.PolyValid(p) {
			t.Errorf("PolyValid(%v) = true", p)
		}
	}
}

func TestFormatPoly(t *testing.T) {
	for _, p := range samplePolys() {
		text := fmt.Sprint(p)
		text = text[1 : len(text)-1]
		if got := impl.FormatPoly(p); got != text {
			t.Errorf("FormatPoly(%v) = %q; want %q", p, got, text)
		}
		got, ok := impl.ParsePoly(text)
		expectList(t, fmt.Sprintf("ParsePoly(%q)", text), got, ok, p, true)
	}
	for _, p := range notPolys() {
		if got := impl.FormatPoly(p); got != "" {
			t.Errorf("FormatPoly(%v) = %q", p, got)
		}
	}
}

func TestParsePoly(t *testing.T) {
	for _, c := range []struct {
		text string
		want []int
	}{{"0", []int{0}}, {"-5", []int{-5}}, {"0 1 2", []int{0, 1, 2}}, {"3 0 0", []int{3, 0, 0}}, {"-100000 100000", []int{-100000, 100000}}, {"10 20 30 40 50 60 70", []int{10, 20, 30, 40, 50, 60, 70}}} {
		got, ok := impl.ParsePoly(c.text)
		expectList(t, fmt.Sprintf("ParsePoly(%q)", c.text), got, ok, c.want, true)
	}
	for _, text := range []string{
		"", " ", "  ", "-", "+", "x", "0 ", " 0", "0  1", "0 1 ", "0\t1", "0\n", "0 1\n", "0\n1", "0,1", "0;1", "0\x00", "\xff", "0 \xff",
		"+1", "0 +1", "01", "00", "0 00", "-0", "0 -0 1", "-01", "--1", "- 1", "1-", "1 -", "1.0", "1e2", "0x1", "1_000", "\u0663", "1\u00a02", "\uff11",
		"100001", "-100001", "0 100001", "0 0 0 0 0 0 -100001", "9223372036854775807", "9223372036854775808", "-9223372036854775809", "18446744073709551616", "99999999999999999999999999 1",
		"0 0 0 0 0 0 0 0", "1 2 3 4 5 6 7 8", "1 2 3 4 5 6 7 8 9 10", "1 2 3 4 5 6 7 ", "1 2 3 4 5 6 7 x", "[0 1 2]", "0 1 2x", "x0 1 2",
	} {
		got, ok := impl.ParsePoly(text)
		expectNone(t, fmt.Sprintf("ParsePoly(%q)", text), got, ok)
	}
}

func TestTrimPoly(t *testing.T) {
	for _, p := range samplePolys() {
		degree, want := -1, []int{0}
		for k, n := range p {
			if n != 0 {
				degree, want = k, p[:k+1]
			}
		}
		expectNumbers(t, fmt.Sprintf("TrimPoly(%v)", p), impl.TrimPoly(p), want)
		expectNumber(t, fmt.Sprintf("DegreeOf(%v)", p), impl.DegreeOf(p), degree)
	}
	for _, p := range notPolys() {
		expectNumbers(t, fmt.Sprintf("TrimPoly(%v)", p), impl.TrimPoly(p), nil)
		expectNumber(t, fmt.Sprintf("DegreeOf(%v)", p), impl.DegreeOf(p), -2)
	}
}

// Zeros that are left out in the middle would change the values.
func TestTrimKeepsInnerZeros(t *testing.T) {
	for _, c := range []struct {
		p, want []int
		degree  int
	}{
		{[]int{0}, []int{0}, -1}, {[]int{0, 0, 0, 0, 0, 0, 0}, []int{0}, -1}, {[]int{3, 0, 0}, []int{3}, 0}, {[]int{0, 0, 2, 0}, []int{0, 0, 2}, 2},
		{[]int{1, 0, 0, 0, 0, 0, -1}, []int{1, 0, 0, 0, 0, 0, -1}, 6}, {[]int{4, 0, 5, 0, 0}, []int{4, 0, 5}, 2}, {[]int{9}, []int{9}, 0}, {[]int{0, 7}, []int{0, 7}, 1},
	} {
		expectNumbers(t, fmt.Sprintf("TrimPoly(%v)", c.p), impl.TrimPoly(c.p), c.want)
		expectNumber(t, fmt.Sprintf("DegreeOf(%v)", c.p), impl.DegreeOf(c.p), c.degree)
	}
}

func TestEvalPoly(t *testing.T) {
	for _, p := range samplePolys() {
		for n := -200; n <= 200; n++ {
			if got, ok := impl.EvalPoly(p, n); got != definedValue(p, n) || !ok {
				t.Errorf("EvalPoly(%v, %d) = %d, %v; want %d", p, n, got, ok, definedValue(p, n))
			}
		}
		for _, n := range notArguments {
			if got, ok := impl.EvalPoly(p, n); got != 0 || ok {
				t.Errorf("EvalPoly(%v, %d) = %d, %v; want 0, false", p, n, got, ok)
			}
		}
	}
	for _, p := range notPolys() {
		for _, n := range []int{0, 1, -1, 200, 201} {
			if got, ok := impl.EvalPoly(p, n); got != 0 || ok {
				t.Errorf("EvalPoly(%v, %d) = %d, %v; want 0, false", p, n, got, ok)
			}
		}
	}
}

func TestValuesOf(t *testing.T) {
	for _, p := range samplePolys() {
		for _, c := range []struct{ from, count int }{
			{0, 0}, {0, 1}, {0, 8}, {0, 60}, {-3, 7}, {-1, 1}, {-200, 0}, {-200, 1}, {-200, 60}, {-30, 60}, {141, 60}, {140, 60},
			{142, 59}, {200, 1}, {200, 0}, {199, 2}, {190, 11}, {150, 4},
		} {
			got, ok := impl.ValuesOf(p, c.from, c.count)
			expectList(t, fmt.Sprintf("ValuesOf(%v, %d, %d)", p, c.from, c.count), got, ok, rowFrom(p, c.from, c.count), true)
		}
	}
}

func TestNoValues(t *testing.T) {
	none := func(p []int, from, count int) {
		got, ok := impl.ValuesOf(p, from, count)
		expectNone(t, fmt.Sprintf("ValuesOf(%v, %d, %d)", p, from, count), got, ok)
	}
	squares := []int{0, 1, 2}
	for _, from := range notArguments {
		for _, count := range []int{-1, 0, 1, 2, 60, 61, minInt, maxInt} {
			none(squares, from, count)
		}
	}
	for _, from := range []int{-200, -1, 0, 140, 200} {
		for _, count := range []int{-1, -2, -200, 61, 62, 1000, minInt, maxInt} {
			none(squares, from, count)
		}
	}
	for from := 142; from <= 200; from++ {
		none(squares, from, 202-from)
		none(squares, from, 60)
	}
	for _, p := range notPolys() {
		none(p, 0, 0)
		none(p, 0, 1)
		none(p, -5, 60)
	}
}
