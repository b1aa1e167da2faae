package tests

import (
	"fmt"
	"slices"
	"testing"

	"loop.example/differenceengine/impl"
)

func TestEngineLimits(t *testing.T) {
	const (
		wheels      = impl.MaxWheels
		degree      = impl.MaxDegree
		coefficient = impl.MaxCoefficient
		argument    = impl.MaxArgument
		table       = impl.MaxTable
		turns       = impl.MaxTurns
	)
	expectNumbers(t, "the limits", []int{wheels, degree, coefficient, argument, table, turns}, []int{12, 6, 100000, 200, 60, 300})
}

func TestEngineTexts(t *testing.T) {
	for _, e := range sampleEngines() {
		if !impl.EngineValid(e) {
			t.Errorf("EngineValid(%s) = false", textOf(e))
		}
		if got := impl.FormatEngine(e); got != engineText(e) {
			t.Errorf("FormatEngine(%s) = %q", textOf(e), got)
		}
		got, ok := impl.ParseEngine(engineText(e))
		expectEngine(t, fmt.Sprintf("ParseEngine(%q)", engineText(e)), got, ok, e)
	}
	for _, e := range notEngines() {
		if impl.EngineValid(e) {
			t.Errorf("EngineValid(%s) = true", textOf(e))
		}
		if got := impl.FormatEngine(e); got != "" {
			t.Errorf("FormatEngine(%s) = %q", textOf(e), got)
		}
	}
}

func TestParseEngine(t *testing.T) {
	for _, c := range []struct {
		text string
		want impl.Engine
	}{{"0", engineOf("0")}, {"9 9 9 9 9 9 9", engineOf("9", "9", "9", "9", "9", "9", "9")}, {"0008 0019 0018 0006", engineOf("0008", "0019", "0018", "0006")},
		{"000000000000 999999999999", engineOf("000000000000", "999999999999")}, {"00 07", engineOf("00", "07")}} {
		got, ok := impl.ParseEngine(c.text)
		expectEngine(t, fmt.Sprintf("ParseEngine(%q)", c.text), got, ok, c.want)
	}
	for _, text := range []string{
		"", " ", "  ", "-", "x", "1 ", " 1", "1  2", "1 2 ", " 1 2", "1\t2", "1\n2", "1\n", "1 2\n", "1,2", "1;2", "1\x00", "\xff", "1 \xff", "1\u00a02",
		"-1", "+1", "1 -1", "01 -1", "01 +1", "1.0", "0x1", "1_0", "\u0663", "\uff11 \uff11", "1 22", "22 1", "01 02 003", "001 02 03", "01 2 03", "01 2x", "x1 23",
		"0 0 0 0 0 0 0 0", "1 2 3 4 5 6 7 8 9 0", "1 2 3 4 5 6 7 ", "1 2 3 4 5 6 7 x", "[1 2]",
		"1234567890123", "123456789012 1234567890123", "1234567890123 1234567890123", "12345678901234567890123 12345678901234567890123",
	} {
		got, ok := impl.ParseEngine(text)
		expectNoEngine(t, fmt.Sprintf("ParseEngine(%q)", text), got, ok)
	}
	for _, e := range notEngines() {
		text := engineText(e)
		if slices.Contains(e.Columns, "1 2") {
			continue // the text is that of another engine, which has two columns in place of this one
		}
		got, ok := impl.ParseEngine(text)
		expectNoEngine(t, fmt.Sprintf("ParseEngine(%q)", text), got, ok)
	}
}

// wantedSetUp returns the differences of a polynomial at an argument, and
// whether there is an engine of a width with them.
func wantedSetUp(p []int, n, width int) ([]int, bool) {
	row, fits := differencesOfValues(len(p), func(m int) int { return definedValue(p, n+m) }), true
	for _, difference := range row {
		fits = fits && 2*difference >= -tens(width) && 2*difference < tens(width)
	}
	return row, fits && isPoly(row)
}

func TestSetUp(t *testing.T) {
	for _, p := range samplePolys() {
		for _, n := range arguments() {
			for width := 1; width <= 12; width++ {
				call := fmt.Sprintf("SetUp(%v, %d, %d)", p, n, width)
				e, ok := impl.SetUp(p, n, width)
				row, fits := wantedSetUp(p, n, width)
				if !fits {
					expectNoEngine(t, call, e, ok)
					continue
				}
				expectEngine(t, call, e, ok, engineShowing(row, width))
				got, ok := impl.ReadEngine(e)
				expectList(t, fmt.Sprintf("ReadEngine(%s)", textOf(e)), got, ok, row, true)
			}
		}
	}
}

// Each column at the bounds of its width, and just past them.
func TestSetUpBounds(t *testing.T) {
	for width := 1; width <= 5; width++ {
		half := tens(width) / 2
		for place := range 7 {
			for n, fits := range map[int]bool{half - 1: true, -half: true, half: false, -half - 1: false, 2 * half: false, -2 * half: false} {
				p := make([]int, 7)
				p[place] = n
				e, ok := impl.SetUp(p, 0, width)
				call := fmt.Sprintf("SetUp(%v, 0, %d)", p, width)
				if fits {
					expectEngine(t, call, e, ok, engineShowing(p, width))
				} else {
					expectNoEngine(t, call, e, ok)
				}
			}
		}
	}
}

func TestNoSetUp(t *testing.T) {
	none := func(p []int, n, width int) {
		e, ok := impl.SetUp(p, n, width)
		expectNoEngine(t, fmt.Sprintf("SetUp(%v, %d, %d)", p, n, width), e, ok)
	}
	for _, p := range notPolys() {
		none(p, 0, 12)
		none(p, 3, 4)
		none(p, 0, 0)
	}
	for _, n := range notArguments {
		none([]int{0, 1, 2}, n, 12)
		none([]int{0}, n, 1)
	}
	for _, width := range notWidths {
		none([]int{0, 1, 2}, 0, width)
		none([]int{0}, 5, width)
	}
	// The differences at the argument are too great for a polynomial, although
	// a column has room for them.
	none([]int{100000, 1}, 1, 12)
	none([]int{-100000, 0, 1}, -200, 0)
	none([]int{0, 0, 0, 0, 0, 0, 100000}, 200, 12)
	none([]int{0, 0, 20}, 200, 12)
}

func TestReadEngine(t *testing.T) {
	for _, e := range sampleEngines() {
		numbers, width := shownBy(e)
		p := []int{}
		for _, n := range numbers {
			p = append(p, standsFor(n, width))
		}
		got, ok := impl.ReadEngine(e)
		expectPoly(t, fmt.Sprintf("ReadEngine(%s)", textOf(e)), got, ok, p)
		if n, ok := impl.ResultOf(e); n != p[0] || !ok {
			t.Errorf("ResultOf(%s) = %d, %v; want %d", textOf(e), n, ok, p[0])
		}
	}
	for _, c := range []struct {
		e    impl.Engine
		want []int
	}{
		{engineOf("100000", "900000"), []int{100000, -100000}}, {engineOf("100001", "000000"), nil}, {engineOf("000000", "899999"), nil},
		{engineOf("000000100000"), []int{100000}}, {engineOf("999999899999"), nil}, {engineOf("500000000000"), nil}, {engineOf("5"), []int{-5}}, {engineOf("9996", "0000", "5000"), []int{-4, 0, -5000}},
	} {
		got, ok := impl.ReadEngine(c.e)
		expectList(t, fmt.Sprintf("ReadEngine(%s)", textOf(c.e)), got, ok, c.want, c.want != nil)
	}
	// A result that no polynomial has is a result all the same.
	for c, want := range map[string]int{"499999999999": 499999999999, "500000000000": -500000000000, "999999899999": -100001, "000000100001": 100001} {
		if n, ok := impl.ResultOf(engineOf(c, "000000000000")); n != want || !ok {
			t.Errorf("ResultOf(%s) = %d, %v; want %d", c, n, ok, want)
		}
	}
	for _, e := range notEngines() {
		got, ok := impl.ReadEngine(e)
		expectNone(t, fmt.Sprintf("ReadEngine(%s)", textOf(e)), got, ok)
		if n, ok := impl.ResultOf(e); n != 0 || ok {
			t.Errorf("ResultOf(%s) = %d, %v", textOf(e), n, ok)
		}
	}
}

func TestCapacityOf(t *testing.T) {
	for _, p := range samplePolys() {
		for _, from := range []int{-200, -30, -1, 0, 1, 141} {
			for _, most := range []int{0, 1, 2, 13, 60} {
				for width := 1; width <= 12; width++ {
					want := 0
					for want < most && 2*definedValue(p, from+want) >= -tens(width) && 2*definedValue(p, from+want) < tens(width) {
						want++
					}
					expectNumber(t, fmt.Sprintf("CapacityOf(%v, %d, %d, %d)", p, from, width, most), impl.CapacityOf(p, from, width, most), want)
				}
			}
		}
	}
}

// Known capacities: values that become too great, too small, or are so from the
// first one on, and values that fit again after an exception.
func TestKnownCapacities(t *testing.T) {
	for _, c := range []struct {
		p                       []int
		from, width, most, want int
	}{
		{[]int{0, 1, 2}, 0, 2, 60, 8}, {[]int{0, 1, 2}, 0, 2, 8, 8}, {[]int{0, 1, 2}, 0, 2, 7, 7}, {[]int{0, 1, 2}, -7, 2, 60, 15}, {[]int{0, 1, 2}, -8, 2, 60, 0},
		{[]int{5}, 0, 1, 10, 0}, {[]int{-5}, 0, 1, 10, 10}, {[]int{-6}, 0, 1, 10, 0}, {[]int{4}, 0, 1, 60, 60}, {[]int{4}, 200, 1, 1, 1}, {[]int{4}, 200, 1, 0, 0}, {[]int{5}, 200, 1, 0, 0},
		{[]int{0, -1}, 0, 1, 60, 6}, {[]int{0, 1}, 0, 1, 60, 5}, {[]int{40, 8, -2}, 0, 2, 60, 2}, {[]int{40, 8, -2}, 8, 2, 60, 8}, {[]int{0, 0, 0, 0, 0, 0, 100000}, 141, 12, 60, 0},
	} {
		expectNumber(t, fmt.Sprintf("CapacityOf(%v, %d, %d, %d)", c.p, c.from, c.width, c.most), impl.CapacityOf(c.p, c.from, c.width, c.most), c.want)
	}
}

func TestNoCapacity(t *testing.T) {
	none := func(p []int, from, width, most int) {
		expectNumber(t, fmt.Sprintf("CapacityOf(%v, %d, %d, %d)", p, from, width, most), impl.CapacityOf(p, from, width, most), -1)
	}
	for _, p := range notPolys() {
		none(p, 0, 12, 10)
		none(p, 0, 12, 0)
	}
	for _, from := range notArguments {
		none([]int{4}, from, 1, 1)
		none([]int{4}, from, 1, 0)
	}
	for _, most := range notCounts {
		none([]int{4}, 0, 1, most)
	}
	for _, width := range notWidths {
		none([]int{4}, 0, width, 10)
		none([]int{4}, 0, width, 0)
		none([]int{500}, 0, width, 10)
	}
	none([]int{4}, 142, 1, 60)
	none([]int{5}, 142, 1, 60)
	none([]int{4}, 200, 1, 2)
}
