package tests

import (
	"fmt"
	"testing"

	"loop.example/differenceengine/impl"
)

// roundsOf returns how often carries are made, one after the other, when y is
// added to x: all marked wheels of a round move the ones above them.
func roundsOf(x, y, width int) int {
	digits, marks := make([]int, width+1), make([]bool, width+1)
	for i := range width {
		sum := x/tens(i)%10 + y/tens(i)%10
		digits[i], marks[i] = sum%10, sum >= 10
	}
	rounds := 0
	for anyOf(marks[:width]) {
		next := make([]bool, width+1)
		for i := range width {
			if marks[i] {
				digits[i+1]++
				next[i+1] = digits[i+1] == 10
				digits[i+1] %= 10
			}
		}
		marks = next
		rounds++
	}
	return rounds
}

func anyOf(marks []bool) bool {
	for _, mark := range marks {
		if mark {
			return true
		}
	}
	return false
}

func TestCarriesOf(t *testing.T) {
	for _, e := range sampleEngines() {
		numbers, width := shownBy(e)
		want := 0
		for i := range len(numbers) - 1 {
			want = max(want, roundsOf(numbers[i], numbers[i+1], width))
			want = max(want, impl.CarryTimes(e.Columns[i], e.Columns[i+1]))
		}
		expectNumber(t, fmt.Sprintf("CarriesOf(%s)", textOf(e)), impl.CarriesOf(e), want)
	}
	for _, e := range notEngines() {
		expectNumber(t, fmt.Sprintf("CarriesOf(%s)", textOf(e)), impl.CarriesOf(e), -1)
	}
}

// The greatest number of carries is counted wherever it is, and not the sum.
func TestKnownCarries(t *testing.T) {
	for text, want := range map[string]int{
		"0008 0019 0018 0006": 1, "9": 0, "999999999999": 0, "0967 0035": 3, "0035 0967": 3, "1 1 1": 0, "5 5": 1, "9 1 9 1 9 1 9": 1,
		"0967 0035 0000": 3, "0000 0967 0035": 3, "0001 0009 0000 0967 0035": 3, "0967 0035 0000 0967 0035": 3, "0000 0000 0000 0000 0000 0967 0035": 3,
		"999999999999 000000000001": 12, "999999999999 000000000001 000000000000 000000000009 000000000001": 12, "999999999999 999999999999": 1, "00 00 00": 0, "95 05 90": 2,
	} {
		e, ok := impl.ParseEngine(text)
		if !ok {
			t.Fatalf("ParseEngine(%q) = false", text)
		}
		expectNumber(t, fmt.Sprintf("CarriesOf(%q)", text), impl.CarriesOf(e), want)
	}
}

func TestAddEngines(t *testing.T) {
	engines := sampleEngines()
	for i, a := range engines {
		for _, b := range engines[i : i+min(9, len(engines)-i)] {
			x, width := shownBy(a)
			y, other := shownBy(b)
			got, ok := impl.AddEngines(a, b)
			call := fmt.Sprintf("AddEngines(%s, %s)", textOf(a), textOf(b))
			if len(x) != len(y) || width != other {
				expectNoEngine(t, call, got, ok)
				continue
			}
			for k := range x {
				x[k] += y[k]
			}
			expectEngine(t, call, got, ok, engineShowing(x, width))
		}
	}
}

// The sum of two engines shows the sums of both in each turn.
func TestSumOfRuns(t *testing.T) {
	a, b := engineOf("0008", "0019", "0018", "0006"), engineOf("9990", "0003", "9998", "0000")
	sum, ok := impl.AddEngines(a, b)
	expectEngine(t, "AddEngines", sum, ok, engineOf("9998", "0022", "0016", "0006"))
	first, _ := impl.RunEngine(a, 12)
	second, _ := impl.RunEngine(b, 12)
	both, _ := impl.RunEngine(sum, 12)
	for i := range both {
		expectNumber(t, fmt.Sprintf("the result %d of the sum", i), both[i], first[i]+second[i])
	}
}

func TestNoSums(t *testing.T) {
	none := func(a, b impl.Engine) {
		got, ok := impl.AddEngines(a, b)
		expectNoEngine(t, fmt.Sprintf("AddEngines(%s, %s)", textOf(a), textOf(b)), got, ok)
	}
	valid := []impl.Engine{engineOf("0012"), engineOf("0012", "0012"), engineOf("0012", "0012", "0012"), engineOf("012", "012"), engineOf("1", "2", "3", "4", "5", "6", "7"), engineOf("1", "2", "3", "4", "5", "6")}
	for i, a := range valid {
		for j, b := range valid {
			if i != j {
				none(a, b)
			}
		}
	}
	for _, e := range notEngines() {
		for _, a := range valid {
			none(a, e)
			none(e, a)
		}
		none(e, e)
	}
}

func TestWidenEngine(t *testing.T) {
	for _, e := range sampleEngines() {
		numbers, width := shownBy(e)
		for other := 1; other <= 12; other++ {
			signed, fits := []int{}, true
			for _, n := range numbers {
				n = standsFor(n, width)
				signed = append(signed, n)
				fits = fits && 2*n >= -tens(other) && 2*n < tens(other)
			}
			got, ok := impl.WidenEngine(e, other)
			call := fmt.Sprintf("WidenEngine(%s, %d)", textOf(e), other)
			if fits {
				expectEngine(t, call, got, ok, engineShowing(signed, other))
			} else {
				expectNoEngine(t, call, got, ok)
			}
		}
		for _, other := range notWidths {
			got, ok := impl.WidenEngine(e, other)
			expectNoEngine(t, fmt.Sprintf("WidenEngine(%s, %d)", textOf(e), other), got, ok)
		}
	}
}

func TestKnownWidenings(t *testing.T) {
	for _, c := range []struct {
		text  string
		width int
		want  string
	}{
		{"0008 0019 0018 0006", 2, "08 19 18 06"}, {"0008 0019 0018 0006", 1, ""}, {"0008 0019 0018 0006", 4, "0008 0019 0018 0006"}, {"9996 0004", 1, "6 4"}, {"6 4", 3, "996 004"}, {"5 5", 12, "999999999995 999999999995"},
		{"0000 0005", 1, ""}, {"0005 0000", 1, ""}, {"0004 9995", 1, "4 5"}, {"0004 9994", 1, ""}, {"049 950", 2, "49 50"}, {"0 0 0 0 0 0 5", 2, "00 00 00 00 00 00 95"}, {"00 00 00 00 00 00 05", 1, ""},
	} {
		e, ok := impl.ParseEngine(c.text)
		if !ok {
			t.Fatalf("ParseEngine(%q) = false", c.text)
		}
		got, ok := impl.WidenEngine(e, c.width)
		call := fmt.Sprintf("WidenEngine(%q, %d)", c.text, c.width)
		if c.want == "" {
			expectNoEngine(t, call, got, ok)
		} else if impl.FormatEngine(got) != c.want || !ok {
			t.Errorf("%s = %s, %v; want %s", call, textOf(got), ok, c.want)
		}
	}
}
