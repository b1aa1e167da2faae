package tests

import (
	"fmt"
	"strings"
	"testing"

	"loop.example/differenceengine/impl"
)

func TestAddAndSubtract(t *testing.T) {
	eachPair(func(a, b string, x, y, width int) {
		sum, ok := impl.AddColumns(a, b)
		expectText(t, fmt.Sprintf("AddColumns(%q, %q)", a, b), sum, ok, showing(x+y, width), true)
		difference, ok := impl.SubtractColumns(a, b)
		expectText(t, fmt.Sprintf("SubtractColumns(%q, %q)", a, b), difference, ok, showing(x-y, width), true)
	})
	eachColumn(func(c string, value, width int) {
		opposite, ok := impl.NegateColumn(c)
		expectText(t, fmt.Sprintf("NegateColumn(%q)", c), opposite, ok, showing(-value, width), true)
	})
}

// The least number of a width has no opposite of that width: its column is its
// own opposite.
func TestLeastNumber(t *testing.T) {
	for width := 1; width <= 12; width++ {
		least, ok := impl.ColumnOf(-tens(width)/2, width)
		expectText(t, "the least column", least, ok, "5"+strings.Repeat("0", width-1), true)
		opposite, ok := impl.NegateColumn(least)
		expectText(t, fmt.Sprintf("NegateColumn(%q)", least), opposite, ok, least, true)
		twice, ok := impl.AddColumns(least, least)
		expectText(t, fmt.Sprintf("AddColumns(%q, %q)", least, least), twice, ok, showing(0, width), true)
		below, ok := impl.SubtractColumns(least, showing(1, width))
		expectText(t, fmt.Sprintf("SubtractColumns(%q, 1)", least), below, ok, showing(tens(width)/2-1, width), true)
	}
}

// turnedDigits adds two columns digit by digit, without carries.
func turnedDigits(a, b string) (string, string) {
	turned, warned := "", ""
	for i := range len(a) {
		sum := int(a[i]-'0') + int(b[i]-'0')
		turned += fmt.Sprint(sum % 10)
		warned += fmt.Sprint(sum / 10)
	}
	return turned, warned
}

// carriedOnce returns a column and its next marks after one carry.
func carriedOnce(c, marks string) (string, string) {
	moved, passed := []byte(c), []byte(strings.Repeat("0", len(c)))
	for i := 1; i < len(c); i++ {
		if marks[i] == '1' && c[i-1] == '9' {
			moved[i-1], passed[i-1] = '0', '1'
		} else if marks[i] == '1' {
			moved[i-1]++
		}
	}
	return string(moved), string(passed)
}

// carriedOut carries by carriedOnce as long as a wheel is marked.
func carriedOut(c, marks string) (string, int) {
	times := 0
	for strings.Contains(marks, "1") {
		c, marks = carriedOnce(c, marks)
		times++
	}
	return c, times
}

func TestTurnAndWarn(t *testing.T) {
	eachPair(func(a, b string, x, y, width int) {
		turned, warned := turnedDigits(a, b)
		got, ok := impl.TurnWheels(a, b)
		expectText(t, fmt.Sprintf("TurnWheels(%q, %q)", a, b), got, ok, turned, true)
		got, ok = impl.WarnedWheels(a, b)
		expectText(t, fmt.Sprintf("WarnedWheels(%q, %q)", a, b), got, ok, warned, true)
		_, times := carriedOut(turned, warned)
		expectNumber(t, fmt.Sprintf("CarryTimes(%q, %q)", a, b), impl.CarryTimes(a, b), times)
	})
}

func TestCarries(t *testing.T) {
	eachMarked(func(c, marks string) {
		once, passed := carriedOnce(c, marks)
		got, gotMarks, ok := impl.CarryOnce(c, marks)
		expectText(t, fmt.Sprintf("CarryOnce(%q, %q)", c, marks), got+" "+gotMarks, ok, once+" "+passed, true)
		all, times := carriedOut(c, marks)
		got, gotTimes, ok := impl.CarryAll(c, marks)
		expectText(t, fmt.Sprintf("CarryAll(%q, %q)", c, marks), fmt.Sprint(got, " ", gotTimes), ok, fmt.Sprint(all, " ", times), true)
		got, ok = impl.CarryAhead(c, marks)
		expectText(t, fmt.Sprintf("CarryAhead(%q, %q)", c, marks), got, ok, all, true)
	})
}

// A carry adds the marks, moved up by one place, to what the column shows.
func TestCarriesAddMarks(t *testing.T) {
	eachMarked(func(c, marks string) {
		want := showing(impl.ValueOf(c)+10*impl.ValueOf(marks), len(c))
		all, _, _ := impl.CarryAll(c, marks)
		ahead, _ := impl.CarryAhead(c, marks)
		if all != want || ahead != want {
			t.Errorf("%q with the marks %q: CarryAll %q, CarryAhead %q; want %q", c, marks, all, ahead, want)
		}
	})
}

func TestNamedCarries(t *testing.T) {
	for _, c := range []struct {
		column, marks, once, next, all string
		times                          int
	}{
		{"0992", "0001", "0902", "0010", "1002", 3},                                          // the document's example
		{"4321", "0000", "4321", "0000", "4321", 0},                                          // none is marked at first
		{"99", "10", "99", "00", "99", 1},                                                    // out of the highest wheel
		{"9", "1", "9", "0", "9", 1},                                                         // there is no wheel above
		{"999", "011", "009", "110", "109", 2},                                               // passes and drops out
		{"099", "011", "109", "010", "209", 2},                                               // a marked wheel passes once more
		{"1990", "0111", "2000", "0110", "3100", 2},                                          // two of them
		{"999999999990", "000000000001", "999999999900", "000000000010", "000000000000", 12}, // a run of nines
		{"099999999990", "000000000001", "099999999900", "000000000010", "100000000000", 11}, // one that ends
		{"999999999999", "111111111111", "000000000009", "111111111110", "111111111109", 2},  // all wheels pass
	} {
		once, next, ok := impl.CarryOnce(c.column, c.marks)
		expectText(t, fmt.Sprintf("CarryOnce(%q, %q)", c.column, c.marks), once+" "+next, ok, c.once+" "+c.next, true)
		all, times, ok := impl.CarryAll(c.column, c.marks)
		expectText(t, fmt.Sprintf("CarryAll(%q, %q)", c.column, c.marks), fmt.Sprint(all, " ", times), ok, fmt.Sprint(c.all, " ", c.times), true)
		ahead, ok := impl.CarryAhead(c.column, c.marks)
		expectText(t, fmt.Sprintf("CarryAhead(%q, %q)", c.column, c.marks), ahead, ok, c.all, true)
	}
}

// One added to nines only is carried through all wheels, and out of the
// highest one.
func TestRunsOfNines(t *testing.T) {
	for width := 1; width <= 12; width++ {
		nines, one := strings.Repeat("9", width), showing(1, width)
		sum, ok := impl.AddColumns(nines, one)
		expectText(t, fmt.Sprintf("AddColumns(%q, %q)", nines, one), sum, ok, showing(0, width), true)
		expectNumber(t, fmt.Sprintf("CarryTimes(%q, %q)", nines, one), impl.CarryTimes(nines, one), width)
		expectNumber(t, fmt.Sprintf("CarryTimes(%q, %q)", nines, nines), impl.CarryTimes(nines, nines), 1)
	}
}

// Promise 1: turning all wheels and then carrying, one after the other or all
// at once, adds two columns.
func TestTurningAndCarryingAdds(t *testing.T) {
	eachPair(func(a, b string, x, y, width int) {
		turned, _ := impl.TurnWheels(a, b)
		warned, _ := impl.WarnedWheels(a, b)
		all, times, allOK := impl.CarryAll(turned, warned)
		ahead, aheadOK := impl.CarryAhead(turned, warned)
		sum, sumOK := impl.AddColumns(a, b)
		if !allOK || !aheadOK || !sumOK || all != sum || ahead != sum || sum != showing(x+y, width) {
			t.Errorf("%q and %q: CarryAll %q, CarryAhead %q, AddColumns %q", a, b, all, ahead, sum)
		}
		if times != impl.CarryTimes(a, b) {
			t.Errorf("CarryTimes(%q, %q) = %d; want %d", a, b, impl.CarryTimes(a, b), times)
		}
	})
}

// expectNoPair fails unless all functions of two columns reject a and b.
func expectNoPair(t *testing.T, a, b string) {
	t.Helper()
	for name, call := range map[string]func(string, string) (string, bool){
		"AddColumns": impl.AddColumns, "SubtractColumns": impl.SubtractColumns, "TurnWheels": impl.TurnWheels, "WarnedWheels": impl.WarnedWheels,
	} {
		got, ok := call(a, b)
		expectText(t, fmt.Sprintf("%s(%q, %q)", name, a, b), got, ok, "", false)
	}
	expectNumber(t, fmt.Sprintf("CarryTimes(%q, %q)", a, b), impl.CarryTimes(a, b), -1)
}

func TestNoPairs(t *testing.T) {
	for _, c := range notColumns {
		same := strings.Repeat("1", len(c))
		expectNoPair(t, c, c)
		expectNoPair(t, c, same)
		expectNoPair(t, same, c)
		expectNoPair(t, c, "01")
		expectNoPair(t, "01", c)
	}
	for one := 1; one <= 12; one++ {
		for other := 1; other <= 12; other++ {
			if one != other {
				expectNoPair(t, strings.Repeat("0", one), strings.Repeat("0", other))
			}
		}
	}
}

// expectNoMarks fails unless all functions of a column and marks reject them.
func expectNoMarks(t *testing.T, c, marks string) {
	t.Helper()
	once, next, ok := impl.CarryOnce(c, marks)
	expectText(t, fmt.Sprintf("CarryOnce(%q, %q)", c, marks), once+next, ok, "", false)
	all, times, ok := impl.CarryAll(c, marks)
	expectText(t, fmt.Sprintf("CarryAll(%q, %q)", c, marks), fmt.Sprint(all, times), ok, fmt.Sprint("", 0), false)
	ahead, ok := impl.CarryAhead(c, marks)
	expectText(t, fmt.Sprintf("CarryAhead(%q, %q)", c, marks), ahead, ok, "", false)
}

func TestNoMarks(t *testing.T) {
	for _, c := range notColumns {
		expectNoMarks(t, c, strings.Repeat("0", len(c)))
		expectNoMarks(t, c, strings.Repeat("1", len(c)))
		expectNoMarks(t, c, "00")
	}
	for _, marks := range []string{"", "0", "1", "001", "0000000000000", "02", "20", "12", "99", "0x", "x0", " 1", "1 ", "-1", "+1", "0/", "0\x00", "0\xff", "\u0661"} {
		expectNoMarks(t, "09", marks)
	}
	for b := range 256 {
		if b != '0' && b != '1' {
			expectNoMarks(t, "0990", string([]byte{'0', byte(b), '1', '0'}))
		}
	}
}

// Calls keep nothing: the same calls return the same again after others.
func TestWheelsKeepNoState(t *testing.T) {
	first, _, _ := impl.CarryAll("0992", "0001")
	impl.CarryAll("999999999999", "111111111111")
	impl.AddColumns("5", "5")
	again, times, ok := impl.CarryAll("0992", "0001")
	expectText(t, "CarryAll again", fmt.Sprint(again, " ", times), ok, first+" 3", true)
}
