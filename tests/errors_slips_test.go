package tests

import (
	"fmt"
	"slices"
	"testing"

	"loop.example/differenceengine/impl"
)

// someSlips are slips of a column after some turns, the bounds among them.
func someSlips() []slip {
	slips := []slip{}
	for column := range 7 {
		for _, turn := range []int{0, 1, 2, 7, 30, 58, 59} {
			for _, amount := range []int{0, 1, -1, 2, -37, 99999, 100000, -100000} {
				slips = append(slips, slip{column, turn, amount})
			}
		}
	}
	return slips
}

func TestSlipEffect(t *testing.T) {
	for _, s := range someSlips() {
		for _, count := range []int{0, 1, 2, 8, 31, 59, 60} {
			got, ok := impl.SlipEffect(s.column, s.turn, s.amount, count)
			expectList(t, fmt.Sprintf("SlipEffect of %v, %d results", s, count), got, ok, s.effect(count), true)
		}
		for _, count := range notCounts {
			got, ok := impl.SlipEffect(s.column, s.turn, s.amount, count)
			expectNone(t, fmt.Sprintf("SlipEffect of %v, %d results", s, count), got, ok)
		}
	}
	for _, s := range notSlips() {
		for _, count := range []int{-1, 0, 1, 60, 61} {
			got, ok := impl.SlipEffect(s.column, s.turn, s.amount, count)
			expectNone(t, fmt.Sprintf("SlipEffect of %v, %d results", s, count), got, ok)
		}
	}
}

func TestKnownEffects(t *testing.T) {
	for _, c := range []struct {
		s    slip
		want []int
	}{
		{slip{1, 3, 2}, []int{0, 0, 0, 0, 2, 4, 6}}, {slip{0, 3, 2}, []int{0, 0, 0, 2, 2, 2}}, {slip{0, 0, -5}, []int{-5, -5, -5}}, {slip{2, 1, 3}, []int{0, 0, 0, 3, 9, 18, 30}},
		{slip{6, 0, 1}, []int{0, 0, 0, 0, 0, 0, 1, 7, 28, 84}}, {slip{2, 4, 9}, []int{0, 0, 0, 0, 0, 0}}, {slip{1, 0, -100000}, []int{0, -100000, -200000}}, {slip{1, 59, 7}, []int{0, 0, 0}}, {slip{0, 2, 7}, []int{0, 0}},
	} {
		got, ok := impl.SlipEffect(c.s.column, c.s.turn, c.s.amount, len(c.want))
		expectList(t, fmt.Sprintf("SlipEffect of %v", c.s), got, ok, c.want, true)
	}
	got, ok := impl.SlipEffect(6, 0, 100000, 60)
	if len(got) != 60 || got[59] != 4505747400000 || !ok {
		t.Errorf("the greatest effect is %v, %v", got, ok)
	}
}

// resultsWithSlip returns the results of an engine with a slip, by the sums of
// its columns before and after it.
func resultsWithSlip(e impl.Engine, count int, s slip) []int {
	before := resultsFrom(e, count)
	numbers, width := shownBy(turnedEngine(e, s.turn))
	numbers[s.column] = modulo(numbers[s.column]+s.amount, tens(width))
	after := resultsFrom(engineShowing(numbers, width), max(0, count-s.turn))
	return slices.Concat(before[:count-len(after)], after)
}

// slippedEngines are engines of all numbers of columns and of some widths.
func slippedEngines() []impl.Engine {
	engines := []impl.Engine{engineOf("0008", "0019", "0018", "0006"), engineOf("0000", "0001", "0002"), engineOf("9996", "0035")}
	throw := dice(8)
	for count := 1; count <= 7; count++ {
		for _, width := range []int{1, 2, 5, 6, 12} {
			row, nines := make([]int, count), make([]int, count)
			for i := range count {
				row[i], nines[i] = throw(0, tens(width)-1), -1
			}
			engines = append(engines, engineShowing(row, width), engineShowing(nines, width))
		}
	}
	return engines
}

func TestRunWithSlip(t *testing.T) {
	for _, e := range slippedEngines() {
		for column := range e.Columns {
			for _, turn := range []int{0, 1, 4, 16, 59} {
				for _, amount := range []int{3, 100000, -99999} {
					s := slip{column, turn, amount}
					want := resultsWithSlip(e, 17, s)
					for _, count := range []int{0, 1, 5, 17} {
						got, ok := impl.RunWithSlip(e, count, turn, column, amount)
						expectList(t, fmt.Sprintf("RunWithSlip(%s) of %v, %d results", textOf(e), s, count), got, ok, want[:count], true)
					}
				}
			}
		}
	}
}

func TestLongRunsWithSlip(t *testing.T) {
	for _, e := range slippedEngines()[:6] {
		for column := range e.Columns {
			for _, turn := range []int{0, 58, 59} {
				for _, amount := range []int{100000, -100000} {
					got, ok := impl.RunWithSlip(e, 60, turn, column, amount)
					expectList(t, fmt.Sprintf("RunWithSlip(%s, 60, %d, %d, %d)", textOf(e), turn, column, amount), got, ok, resultsWithSlip(e, 60, slip{column, turn, amount}), true)
				}
			}
		}
	}
}

// Columns that slip past 9 or below 0 show the amount modulo the power of ten.
func TestSlipsGoAround(t *testing.T) {
	for _, c := range []struct {
		text        string
		count       int
		turn        int
		column      int
		amount      int
		wantResults []int
	}{
		{"0000 0001 0002", 6, 3, 1, 2, []int{0, 1, 4, 9, 18, 29}}, {"0000 0001 0002", 6, 3, 0, 2, []int{0, 1, 4, 11, 18, 27}}, {"0000 0001 0002", 6, 3, 2, -2, []int{0, 1, 4, 9, 16, 23}},
		{"7", 3, 1, 0, 100000, []int{-3, -3, -3}}, {"7", 3, 1, 0, 4, []int{-3, 1, 1}}, {"7", 3, 0, 0, -8, []int{-1, -1, -1}}, {"0", 2, 0, 0, -100000, []int{0, 0}}, {"00", 2, 1, 0, -99999, []int{0, 1}},
		{"4 0", 4, 2, 0, 1, []int{4, 4, -5, -5}}, {"4999", 2, 1, 0, 1, []int{4999, -5000}}, {"5000", 2, 1, 0, -1, []int{-5000, 4999}}, {"499999999999", 2, 1, 0, 100000, []int{499999999999, -499999900001}}, {"0 0", 4, 1, 1, 95, []int{0, 0, -5, 0}},
		{"0001 0001", 2, 2, 0, 50, []int{1, 2}}, {"0001 0001", 2, 1, 1, 50, []int{1, 2}}, {"0001 0001", 0, 0, 0, 50, []int{}}, {"0001 0001", 3, 1, 0, 0, []int{1, 2, 3}}, {"0001 0001", 3, 59, 1, 50, []int{1, 2, 3}},
	} {
		e, _ := impl.ParseEngine(c.text)
		got, ok := impl.RunWithSlip(e, c.count, c.turn, c.column, c.amount)
		expectList(t, fmt.Sprintf("RunWithSlip(%q, %d, %d, %d, %d)", c.text, c.count, c.turn, c.column, c.amount), got, ok, c.wantResults, true)
	}
}

func TestNoRunsWithSlip(t *testing.T) {
	none := func(e impl.Engine, count int, s slip) {
		got, ok := impl.RunWithSlip(e, count, s.turn, s.column, s.amount)
		expectNone(t, fmt.Sprintf("RunWithSlip(%s) of %v, %d results", textOf(e), s, count), got, ok)
	}
	whole := engineOf("0001", "0002", "0003", "0004", "0005", "0006", "0007")
	for _, s := range notSlips() {
		for _, count := range []int{0, 1, 60} {
			none(whole, count, s)
			none(engineOf("7"), count, s)
		}
	}
	for _, count := range notCounts {
		none(whole, count, slip{0, 0, 1})
		none(engineOf("7"), count, slip{0, 59, 0})
	}
	for _, e := range notEngines() {
		none(e, 0, slip{0, 0, 1})
		none(e, 5, slip{0, 2, 0})
	}
	for count := 1; count <= 6; count++ {
		e := impl.Engine{Columns: whole.Columns[:count]}
		for column := count; column <= 6; column++ {
			none(e, 0, slip{column, 0, 0})
			none(e, 9, slip{column, 3, 1})
			none(e, 3, slip{column, 59, 1})
		}
	}
}

// Promise 4: what a slip changes in the results of an engine is its effect, and
// tells of it. The numbers fit in the columns here.
func TestSlipsAreFound(t *testing.T) {
	for _, p := range [][]int{{7}, {0, 1}, {0, 1, 2}, {-4, 9, -2, 5}, {1, 2, 3, 4, 5}, {1, 0, 1, 0, 1, 0}, {9, -8, 7, -6, 5, -4, 3}} {
		e, _ := impl.SetUp(p, -5, 12)
		right, _ := impl.RunEngine(e, 20)
		for column := range p {
			for turn := range 20 {
				for _, amount := range []int{1, -2, 999} {
					s := slip{column, turn, amount}
					printed, ok := impl.RunWithSlip(e, 20, turn, column, amount)
					want := slices.Clone(right)
					for i, n := range s.effect(20) {
						want[i] += n
					}
					expectList(t, fmt.Sprintf("RunWithSlip(%s) of %v", textOf(e), s), printed, ok, want, true)
					// Of two results at least that are wrong, the second one tells
					// of the column.
					if turn+column < 19 {
						expectSlip(t, right, printed, s, true)
					}
				}
			}
		}
	}
}

func expectSlip(t *testing.T, right, printed []int, want slip, wantOK bool) {
	t.Helper()
	column, turn, amount, ok := impl.DiagnoseSlip(right, printed)
	if got := (slip{column, turn, amount}); got != want || ok != wantOK {
		t.Errorf("DiagnoseSlip(%v, %v) = %v, %v; want %v, %v", right, printed, got, ok, want, wantOK)
	}
}

// Slips of all columns, in tables of all kinds, down to ones that are too short
// to tell of the column.
func TestDiagnoseSlip(t *testing.T) {
	for _, s := range someSlips() {
		for _, right := range someTables() {
			printed := slices.Clone(right)
			for i, n := range s.effect(len(right)) {
				printed[i] += n
			}
			if isTable(printed) {
				want, ok := wantedSlip(right, printed)
				expectSlip(t, right, printed, want, ok)
				expectSlip(t, printed, printed, slip{}, false)
			}
		}
	}
}

// Tables that differ by no slip, or by nearly one: two slips, and a slip with
// an error of the table.
func TestOtherDifferences(t *testing.T) {
	throw := dice(9)
	for _, length := range []int{1, 2, 3, 4, 8, 60} {
		for range 400 {
			right := make([]int, length)
			for i := range right {
				right[i] = throw(-500, 500)
			}
			first, second := slip{throw(0, 6), throw(0, length-1), throw(-2, 2)}, slip{throw(0, 2), throw(0, length-1), throw(-1, 1)}
			printed := slices.Clone(right)
			for i := range printed {
				printed[i] += first.effect(length)[i] + second.effect(length)[i]
			}
			want, ok := wantedSlip(right, printed)
			expectSlip(t, right, printed, want, ok)
			printed[throw(0, length-1)] += throw(-2, 2)
			want, ok = wantedSlip(right, printed)
			expectSlip(t, right, printed, want, ok)
		}
	}
}

func TestKnownSlips(t *testing.T) {
	for _, c := range []struct {
		wrong []int
		want  slip
	}{
		{[]int{0, 0, 0, 0, 2, 4}, slip{1, 3, 2}}, {[]int{0, 0, 0, 2, 2, 2}, slip{0, 3, 2}}, {[]int{5}, slip{0, 0, 5}}, {[]int{-5, -5}, slip{0, 0, -5}}, {[]int{0, 3}, slip{0, 1, 3}}, {[]int{0, 0, 0, 0, 0, 0, 0, 4}, slip{0, 7, 4}},
		{[]int{0, 1, 2, 3}, slip{1, 0, 1}}, {[]int{0, 0, 1, 3, 6}, slip{2, 0, 1}}, {[]int{0, 0, 1, 3}, slip{2, 0, 1}}, {[]int{0, 0, 1, 2}, slip{1, 1, 1}}, {[]int{0, 0, 0, -7, -28}, slip{3, 0, -7}}, {[]int{0, 0, 0, 0, 0, 0, 1, 7}, slip{6, 0, 1}}, {[]int{0, 0, 0, 0, 0, 0, 0, 1, 7, 28}, slip{6, 1, 1}},
		{[]int{0, 0, 100000}, slip{0, 2, 100000}}, {[]int{0, 0, -100000}, slip{0, 2, -100000}}, {[]int{0, -100000, -200000}, slip{1, 0, -100000}},
		// No slip: the column would slip before the first turn, or there is no
		// such column, or the amount is too great.
		{[]int{1, 2, 3}, slip{}}, {[]int{0, 1, 3, 6}, slip{}}, {[]int{0, 0, 0, 0, 0, 1, 7}, slip{}}, {[]int{0, 0, 0, 0, 0, 0, 0, 1, 8}, slip{}}, {[]int{0, 0, 100001}, slip{}}, {[]int{0, 0, -100001}, slip{}}, {[]int{0, 100001, 200002}, slip{}}, {[]int{100001}, slip{}},
		{[]int{0, 1, 0}, slip{}}, {[]int{1, 0, 0}, slip{}}, {[]int{0, 2, 3}, slip{}}, {[]int{0, 1, 2, 4}, slip{}}, {[]int{0, 0, 0}, slip{}}, {[]int{0}, slip{}}, {[]int{1, 1, 1, 2}, slip{}}, {[]int{2, -2}, slip{}},
		{[]int{1000000000}, slip{}}, {[]int{0, -1000000000, -1000000000}, slip{}},
	} {
		expectSlip(t, make([]int, len(c.wrong)), c.wrong, c.want, c.want.amount != 0)
	}
	expectSlip(t, []int{0, 1, 4, 9, 16, 25}, []int{0, 1, 4, 9, 18, 29}, slip{1, 3, 2}, true)
	expectSlip(t, []int{0, 1, 4, 9, 18, 29}, []int{0, 1, 4, 9, 16, 25}, slip{1, 3, -2}, true)
	expectSlip(t, []int{-1000000000, 5}, []int{1000000000, 5}, slip{}, false)
	expectSlip(t, []int{1000000000}, []int{999900000}, slip{0, 0, -100000}, true)
}

// The last entry of a long table, and the one before.
func TestLateSlips(t *testing.T) {
	right := rowFrom([]int{0, 1, 2}, 0, 60)
	expectSlip(t, right, changedBy(right, 59, -8), slip{0, 59, -8}, true)
	expectSlip(t, right, changedBy(changedBy(right, 59, 9), 58, 9), slip{0, 58, 9}, true)
	expectSlip(t, right, changedBy(changedBy(right, 59, 18), 58, 9), slip{1, 57, 9}, true)
	expectSlip(t, right, changedBy(changedBy(right, 59, 63), 58, 9), slip{6, 52, 9}, true)
	expectSlip(t, right, changedBy(changedBy(right, 59, 72), 58, 9), slip{}, false)
	expectSlip(t, right, changedBy(right, 58, 9), slip{}, false)
}

func TestNoDiagnosis(t *testing.T) {
	for _, values := range notTables() {
		expectSlip(t, values, values, slip{}, false)
		expectSlip(t, make([]int, len(values)), values, slip{}, false)
		expectSlip(t, values, make([]int, len(values)), slip{}, false)
		if len(values) > 0 {
			expectSlip(t, values, changedBy(values, len(values)-1, 1), slip{}, false)
			expectSlip(t, changedBy(values, len(values)-1, 1), values, slip{}, false)
		}
	}
	tables := someTables()
	for i, right := range tables {
		for _, printed := range tables[i:] {
			if len(right) != len(printed) {
				expectSlip(t, right, printed, slip{}, false)
				expectSlip(t, printed, right, slip{}, false)
			}
		}
	}
	expectSlip(t, []int{0, 1}, []int{0, 1, 5}, slip{}, false)
	expectSlip(t, []int{0, 1, 5}, []int{0, 2}, slip{}, false)
	// The table that is none would be explained by a slip.
	expectSlip(t, []int{0, 1000000000}, []int{1, 1000000001}, slip{}, false)
	expectSlip(t, []int{-1000000001}, []int{-1000000000}, slip{}, false)
}
