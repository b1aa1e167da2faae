package tests

import (
	"fmt"
	"testing"

	"loop.example/differenceengine/impl"
)

func expectRounded(t *testing.T, n, digits, way, want int, wantOK bool) {
	t.Helper()
	got, ok := impl.RoundEntry(n, digits, way)
	if got != want || ok != wantOK {
		t.Errorf("RoundEntry(%d, %d, %d) = %d, %v; want %d, %v", n, digits, way, got, ok, want, wantOK)
	}
}

func TestRoundEntry(t *testing.T) {
	for _, n := range numbersToRound() {
		for digits := range 7 {
			for way := range 3 {
				expectRounded(t, n, digits, way, rounded(n, digits, way), true)
			}
		}
	}
}

func TestKnownRounding(t *testing.T) {
	for _, c := range []struct{ n, digits, down, near, even int }{
		// Halves, of which the numbers below are even and odd.
		{5, 1, 0, 1, 0}, {15, 1, 1, 2, 2}, {25, 1, 2, 3, 2}, {35, 1, 3, 4, 4}, {250, 2, 2, 3, 2}, {350, 2, 3, 4, 4}, {500000, 6, 0, 1, 0}, {1500000, 6, 1, 2, 2},
		{-5, 1, -1, -1, 0}, {-15, 1, -2, -2, -2}, {-25, 1, -3, -3, -2}, {-35, 1, -4, -4, -4}, {-250, 2, -3, -3, -2}, {-350, 2, -4, -4, -4}, {-500000, 6, -1, -1, 0}, {-1500000, 6, -2, -2, -2},
		// Next to halves.
		{4, 1, 0, 0, 0}, {6, 1, 0, 1, 1}, {14, 1, 1, 1, 1}, {16, 1, 1, 2, 2}, {-4, 1, -1, 0, 0}, {-6, 1, -1, -1, -1}, {-14, 1, -2, -1, -1}, {-16, 1, -2, -2, -2}, {499999, 6, 0, 0, 0}, {500001, 6, 0, 1, 1}, {-499999, 6, -1, 0, 0}, {-500001, 6, -1, -1, -1},
		// Next to whole numbers, and whole numbers.
		{0, 6, 0, 0, 0}, {1, 1, 0, 0, 0}, {-1, 1, -1, 0, 0}, {9, 1, 0, 1, 1}, {-9, 1, -1, -1, -1}, {10, 1, 1, 1, 1}, {-10, 1, -1, -1, -1}, {-1000000, 6, -1, -1, -1}, {-999999, 6, -1, -1, -1}, {999999, 6, 0, 1, 1},
		{0, 0, 0, 0, 0}, {7, 0, 7, 7, 7}, {-7, 0, -7, -7, -7}, {5, 0, 5, 5, 5}, {-5, 0, -5, -5, -5},
		{1000000000, 0, 1000000000, 1000000000, 1000000000}, {-1000000000, 0, -1000000000, -1000000000, -1000000000}, {1000000000, 6, 1000, 1000, 1000}, {-1000000000, 6, -1000, -1000, -1000}, {999999999, 6, 999, 1000, 1000}, {-999999999, 6, -1000, -1000, -1000}, {999999999, 1, 99999999, 100000000, 100000000},
	} {
		for way, want := range []int{c.down, c.near, c.even} {
			expectRounded(t, c.n, c.digits, way, want, true)
		}
	}
	expectRounded(t, -25, 1, impl.RoundDown, -3, true)
	expectRounded(t, 25, 1, impl.RoundNear, 3, true)
	expectRounded(t, 25, 1, impl.RoundEven, 2, true)
}

func TestNoRounding(t *testing.T) {
	for _, n := range []int{0, 1, 5, -5, 125, 1000000000, -1000000000} {
		for _, digits := range notGuards {
			for way := range 3 {
				expectRounded(t, n, digits, way, 0, false)
			}
		}
		for _, way := range notWays {
			for digits := range 7 {
				expectRounded(t, n, digits, way, 0, false)
			}
			expectRounded(t, n, 7, way, 0, false)
		}
	}
	for _, n := range beyondEntries {
		for digits := range 7 {
			for way := range 3 {
				expectRounded(t, n, digits, way, 0, false)
			}
		}
	}
}

func expectRoundedTable(t *testing.T, values []int, digits, way int, want []int, wantError int) {
	t.Helper()
	got, ok := impl.RoundTable(values, digits, way)
	expectList(t, fmt.Sprintf("RoundTable(%v, %d, %d)", values, digits, way), got, ok, want, want != nil)
	expectNumber(t, fmt.Sprintf("RoundError(%v, %d, %d)", values, digits, way), impl.RoundError(values, digits, way), wantError)
}

func TestRoundTable(t *testing.T) {
	for _, values := range tablesToRound() {
		for digits := range 7 {
			for way := range 3 {
				want, greatest := roundedTable(values, digits, way), 0
				for i, n := range values {
					greatest = max(greatest, farFrom(n, want[i]*tens(digits)))
				}
				expectRoundedTable(t, values, digits, way, want, greatest)
			}
		}
	}
}

func TestKnownRoundedTables(t *testing.T) {
	for _, c := range []struct {
		values      []int
		digits, way int
		want        []int
		greatest    int
	}{
		{[]int{14, 15}, 1, 1, []int{1, 2}, 5}, {[]int{14, 15, 25}, 1, 2, []int{1, 2, 2}, 5}, {[]int{19}, 1, 0, []int{1}, 9}, {[]int{-11}, 1, 0, []int{-2}, 9}, {[]int{10, -20}, 1, 0, []int{1, -2}, 0},
		{[]int{-4}, 1, 1, []int{0}, 4}, {[]int{-6}, 1, 1, []int{-1}, 4}, {[]int{6}, 1, 2, []int{1}, 4}, {[]int{9, 3, 10}, 1, 1, []int{1, 0, 1}, 3}, {[]int{7, -7}, 0, 0, []int{7, -7}, 0},
		{[]int{1, 999999}, 6, 0, []int{0, 0}, 999999}, {[]int{999999, 0}, 6, 1, []int{1, 0}, 1}, {[]int{500000}, 6, 2, []int{0}, 500000}, {[]int{-1000000000, 1000000000}, 6, 1, []int{-1000, 1000}, 0},
	} {
		expectRoundedTable(t, c.values, c.digits, c.way, c.want, c.greatest)
	}
}

func TestNoRoundedTables(t *testing.T) {
	for _, values := range notTables() {
		for _, digits := range []int{-1, 0, 1, 6, 7} {
			for way := -1; way <= 3; way++ {
				expectRoundedTable(t, values, digits, way, nil, -1)
			}
		}
	}
	for _, values := range someTables() {
		for _, digits := range notGuards {
			for way := -1; way <= 3; way++ {
				expectRoundedTable(t, values, digits, way, nil, -1)
			}
		}
		for _, way := range notWays {
			for digits := range 7 {
				expectRoundedTable(t, values, digits, way, nil, -1)
			}
		}
	}
}

// Promise 6: no rounded entry is farther from its number than the way of
// rounding allows: less than a unit below it for RoundDown, and half a unit for
// the others.
func TestRoundedEntriesAreNear(t *testing.T) {
	for _, n := range numbersToRound() {
		for digits := range 7 {
			unit := tens(digits)
			down, _ := impl.RoundEntry(n, digits, impl.RoundDown)
			if rest := n - down*unit; rest < 0 || rest >= unit {
				t.Errorf("RoundEntry(%d, %d, RoundDown) = %d, which is %d away", n, digits, down, rest)
			}
			for _, way := range []int{impl.RoundNear, impl.RoundEven} {
				near, _ := impl.RoundEntry(n, digits, way)
				if 2*farFrom(n, near*unit) > unit {
					t.Errorf("RoundEntry(%d, %d, %d) = %d, which is too far away", n, digits, way, near)
				}
			}
		}
	}
	for _, values := range tablesToRound() {
		for digits := range 7 {
			for way, most := range []int{tens(digits) - 1, tens(digits) / 2, tens(digits) / 2} {
				if got := impl.RoundError(values, digits, way); got < 0 || got > most {
					t.Errorf("RoundError(%v, %d, %d) = %d", values, digits, way, got)
				}
			}
		}
	}
}

// What is rounded to a whole number again stays, and numbers of opposite signs
// have opposite nearest ones.
func TestRoundingTwice(t *testing.T) {
	for _, n := range numbersToRound() {
		for digits := range 7 {
			for way := range 3 {
				once, _ := impl.RoundEntry(n, digits, way)
				if again := once * tens(digits); farFrom(again, 0) <= 1000000000 {
					expectRounded(t, again, digits, way, once, true)
				}
				if way != impl.RoundDown {
					expectRounded(t, -n, digits, way, -once, true)
				}
			}
		}
	}
}
