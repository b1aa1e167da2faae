package tests

import (
	"fmt"
	"math/big"
	"slices"
	"testing"

	"loop.example/differenceengine/impl"
)

func expectClean(t *testing.T, values []int, degree int, want bool) {
	t.Helper()
	if got := impl.CleanTable(values, degree); got != want {
		t.Errorf("CleanTable(%v, %d) = %v", values, degree, got)
	}
}

func TestCleanTable(t *testing.T) {
	for _, values := range sampleTables() {
		for degree := range 7 {
			expectClean(t, values, degree, isClean(values, degree))
		}
		for _, degree := range notDegrees {
			expectClean(t, values, degree, false)
		}
	}
	for _, values := range notTables() {
		for degree := -1; degree <= 7; degree++ {
			expectClean(t, values, degree, false)
		}
	}
}

// Tables that are too short to have the differences are clean, whatever their
// entries are; one entry more, and they need not be.
func TestShortTablesAreClean(t *testing.T) {
	for degree := range 7 {
		values := []int{}
		for i := range degree + 1 {
			values = append(values, 1000000000-2000000000*(i%2))
			expectClean(t, values, degree, true)
		}
		expectClean(t, append(values, 1), degree, false)
	}
	expectClean(t, []int{0}, 0, true)
	expectClean(t, make([]int, 60), 0, true)
	expectClean(t, make([]int, 61), 0, false)
}

// An error in any entry of a table that is not too short is seen.
func TestNoErrorIsClean(t *testing.T) {
	for degree := range 7 {
		for _, length := range []int{degree + 2, degree + 3, 30, 60} {
			for at := range length {
				expectClean(t, changedBy(make([]int, length), at, 1), degree, false)
				expectClean(t, changedBy(rowFrom([]int{3, 1, 2, 0, 1, 0, 1}[:degree+1], -9, length), at, -4), degree, false)
			}
		}
	}
}

// someAmounts are amounts of errors, the bounds among them.
var someAmounts = []int{0, 1, -1, 2, -3, 7, 35, -420, 123456789, 999999999, 1000000000, -1000000000}

func TestErrorPattern(t *testing.T) {
	for order := range 8 {
		for _, amount := range someAmounts {
			want := []int{}
			for k := range order + 1 {
				n := amount * toInt(chosen(order, k))
				if k%2 == 1 {
					n = -n
				}
				want = append(want, n)
			}
			expectNumbers(t, fmt.Sprintf("ErrorPattern(%d, %d)", order, amount), impl.ErrorPattern(order, amount), want)
		}
	}
	for _, amount := range someAmounts {
		for _, order := range []int{-1, -2, 8, 9, 60, minInt, maxInt} {
			expectNumbers(t, fmt.Sprintf("ErrorPattern(%d, %d)", order, amount), impl.ErrorPattern(order, amount), nil)
		}
	}
	for order := -1; order <= 8; order++ {
		for _, amount := range notAmounts {
			expectNumbers(t, fmt.Sprintf("ErrorPattern(%d, %d)", order, amount), impl.ErrorPattern(order, amount), nil)
		}
	}
}

func TestKnownPatterns(t *testing.T) {
	for order, want := range [][]int{{1}, {1, -1}, {1, -2, 1}, {1, -3, 3, -1}, {1, -4, 6, -4, 1}, {1, -5, 10, -10, 5, -1}, {1, -6, 15, -20, 15, -6, 1}, {1, -7, 21, -35, 35, -21, 7, -1}} {
		expectNumbers(t, fmt.Sprintf("ErrorPattern(%d, 1)", order), impl.ErrorPattern(order, 1), want)
	}
	expectNumbers(t, "ErrorPattern(3, 2)", impl.ErrorPattern(3, 2), []int{2, -6, 6, -2})
	expectNumbers(t, "ErrorPattern(3, -2)", impl.ErrorPattern(3, -2), []int{-2, 6, -6, 2})
	expectNumbers(t, "ErrorPattern(2, 0)", impl.ErrorPattern(2, 0), []int{0, 0, 0})
}

// A pattern is what an error changes in the differences of a long table, and
// all that it changes.
func TestPatternsInTables(t *testing.T) {
	const at = 10
	values := rowFrom([]int{5, -2, 0, 3}, 0, 21)
	wrong, _ := impl.PutError(values, at, -9)
	for order := range 8 {
		pattern := impl.ErrorPattern(order, -9)
		for i := range len(values) - order {
			want := 0
			if k := i - (at - order); k >= 0 && k < len(pattern) {
				want = pattern[k]
			}
			got := definedDifference(wrong, order, i) - definedDifference(values, order, i)
			expectNumber(t, fmt.Sprintf("the change of the difference %d of the order %d", i, order), got, want)
		}
	}
}

func TestPutError(t *testing.T) {
	for _, values := range someTables() {
		for at := range values {
			for _, amount := range append([]int{5, -5}, someAmounts...) {
				want := changedBy(values, at, amount)
				got, ok := impl.PutError(values, at, amount)
				call := fmt.Sprintf("PutError(%v, %d, %d)", values, at, amount)
				if isTable(want) {
					expectList(t, call, got, ok, want, true)
				} else {
					expectNone(t, call, got, ok)
				}
			}
		}
	}
}

func TestNoPutError(t *testing.T) {
	none := func(values []int, at, amount int) {
		got, ok := impl.PutError(values, at, amount)
		expectNone(t, fmt.Sprintf("PutError(%v, %d, %d)", values, at, amount), got, ok)
	}
	for _, values := range someTables() {
		for _, at := range []int{-1, -60, len(values), len(values) + 1, 60, 1000, minInt, maxInt} {
			none(values, at, 1)
			none(values, at, 0)
		}
		for _, amount := range notAmounts {
			none(values, 0, amount)
			none(values, len(values)-1, amount)
		}
	}
	for _, values := range notTables() {
		none(values, 0, 1)
		none(values, 0, 0)
		none(values, len(values)-1, -1)
		none(values, len(values), 1)
	}
	// An error must not make a table of what is none.
	none([]int{1000000001}, 0, -1)
	none([]int{3, -1000000001, 3}, 1, 5)
	// The amount is too great, although the result would be a table.
	none([]int{-1000000000}, 0, 1000000001)
	none([]int{-1000000000}, 0, 2000000000)
	none([]int{1, 1000000000}, 1, -1000000001)
}

func TestPutErrorBounds(t *testing.T) {
	for _, c := range []struct {
		value, amount int
		want          []int
	}{
		{0, 1000000000, []int{1000000000}}, {0, -1000000000, []int{-1000000000}}, {1, 1000000000, nil}, {-1, -1000000000, nil}, {1000000000, 0, []int{1000000000}}, {1000000000, 1, nil}, {-1000000000, -1, nil},
		{1000000000, -1000000000, []int{0}}, {-1000000000, 1000000000, []int{0}}, {999999999, 1, []int{1000000000}}, {-999999999, -1, []int{-1000000000}}, {999999999, 2, nil}, {4, 0, []int{4}},
	} {
		got, ok := impl.PutError([]int{c.value}, 0, c.amount)
		expectList(t, fmt.Sprintf("PutError([%d], 0, %d)", c.value, c.amount), got, ok, c.want, c.want != nil)
	}
}

// Promise 4: a single error in any entry, those at both ends among them, of a
// table that is as short as it may be, or longer.
func TestSingleErrors(t *testing.T) {
	for _, p := range samplePolys() {
		for degree := len(p) - 1; degree <= 6; degree++ {
			for _, length := range []int{degree + 3, degree + 4, 2*degree + 3} {
				expectEachFound(t, rowFrom(p, -length/2, length), degree, 1, -1, 2, -12, 700001)
			}
		}
		expectEachFound(t, rowFrom(p, -20, 31), len(p)-1, -60)
		expectEachFound(t, rowFrom(p, -20, 60), len(p)-1, 7)
	}
}

// expectEachFound fails unless errors by the amounts, and ones by which an entry
// becomes 0 or reaches a bound, are found in each entry of a clean table, as
// far as they are errors of tables.
func expectEachFound(t *testing.T, values []int, degree int, amounts ...int) {
	t.Helper()
	if !isTable(values) {
		return
	}
	expectFound(t, values, degree, found{kind: impl.ErrorNone})
	for at, value := range values {
		for _, amount := range append([]int{-value, 1000000000 - value, -1000000000 - value}, amounts...) {
			if wrong := changedBy(values, at, amount); isTable(wrong) && amount != 0 {
				expectFound(t, wrong, degree, found{at, amount, impl.ErrorSingle})
			}
		}
	}
}

// Tables with two errors, and with three, next to each other and apart, are
// not taken for ones with a single error, unless they are such.
func TestSeveralErrors(t *testing.T) {
	throw := dice(5)
	for degree := range 7 {
		for length := degree + 3; length <= degree+9; length++ {
			for first := range length {
				for second := range first {
					values := changedBy(changedBy(rowFrom([]int{4, -1, 3, 0, 2, 1, 1}[:degree+1], -2, length), first, throw(-9, 9)), second, throw(-9, 9))
					expectFound(t, values, degree, wantedError(t, values, degree))
					values[throw(0, length-1)] += throw(-3, 3)
					expectFound(t, values, degree, wantedError(t, values, degree))
				}
			}
		}
	}
	for _, at := range []int{0, 1, 30, 57} {
		for _, far := range []int{1, 2} {
			values := changedBy(changedBy(rowFrom([]int{0, 1, 2}, 0, 60), at, 5), at+far, -5)
			expectFound(t, values, 2, found{kind: impl.ErrorMany})
		}
	}
	values := changedBy(changedBy(rowFrom([]int{0, 1, 2}, 0, 60), 0, 1), 59, 1)
	expectFound(t, values, 2, found{kind: impl.ErrorMany})
}

// tableWith returns a table with given differences, taken order times, whose
// first entries are those of first, and which may be too great.
func tableWith(first, row []int) []int {
	values := append([]int{}, first...)
	for _, difference := range row {
		at := len(values) - len(first)
		values = append(values, 0)
		values[len(values)-1] = difference - definedDifference(values, len(first), at)
	}
	return values
}

// Differences of all kinds, small ones, in short tables.
func TestSmallDifferences(t *testing.T) {
	throw := dice(6)
	for degree := range 7 {
		for length := degree + 3; length <= degree+5; length++ {
			for range 300 {
				first, row := make([]int, degree+1), make([]int, length-degree-1)
				for i := range first {
					first[i] = throw(-50, 50)
				}
				for i := range row {
					row[i] = throw(-3, 3)
				}
				values := tableWith(first, row)
				expectFound(t, values, degree, wantedError(t, values, degree))
			}
		}
	}
}

// An error in the entry at would be a fraction: the differences that it changes
// have a common divisor, and are divided by it here.
func TestFractions(t *testing.T) {
	seen := 0
	for degree := range 7 {
		order := degree + 1
		for length := degree + 3; length <= 2*degree+5; length++ {
			for at := range length {
				divisor, row := 0, []int{}
				for i := range length - order {
					row = append(row, definedDifference(changedBy(make([]int, length), at, 1), order, i))
					divisor = greatest(divisor, row[i])
				}
				for times := 1; times < divisor; times++ {
					part := []int{}
					for _, n := range row {
						part = append(part, n/divisor*times)
					}
					expectFound(t, tableWith(make([]int, order), part), degree, found{kind: impl.ErrorMany})
					seen++
				}
				whole := tableWith(make([]int, order), row)
				expectFound(t, whole, degree, wantedError(t, whole, degree))
			}
		}
	}
	if seen == 0 {
		t.Error("no fractions were tried")
	}
	expectFound(t, []int{0, 0, 0, 1, 2}, 2, found{kind: impl.ErrorMany})
	expectFound(t, []int{0, 0, 0, 3, 6}, 2, found{2, -1, impl.ErrorSingle})
	expectFound(t, []int{0, 0, 0, -2, -4}, 2, found{kind: impl.ErrorMany})
}

// greatest returns the greatest number that divides both.
func greatest(a, b int) int {
	divisor := 0
	for n := 1; n <= max(a, -a, b, -b); n++ {
		if a%n == 0 && b%n == 0 {
			divisor = n
		}
	}
	return divisor
}

func TestKnownErrors(t *testing.T) {
	for _, c := range []struct {
		values []int
		degree int
		want   found
	}{
		{[]int{0, 1, 4, 10, 16, 25}, 2, found{3, 1, impl.ErrorSingle}}, {[]int{7, 1, 4, 9, 16}, 2, found{0, 7, impl.ErrorSingle}}, {[]int{0, 1, 4, 9, 17}, 2, found{4, 1, impl.ErrorSingle}},
		{[]int{0, 2, 4, 9, 16}, 2, found{1, 1, impl.ErrorSingle}}, {[]int{0, 1, 3, 9, 16}, 2, found{2, -1, impl.ErrorSingle}}, {[]int{0, 1, 4, 9, 16}, 2, found{}}, {[]int{0, 1, 4, 9, 16}, 6, found{kind: impl.ErrorInvalid}},
		{[]int{0, 1, 5, 9, 17, 25, 36}, 2, found{kind: impl.ErrorMany}}, {[]int{5, 5, 5}, 0, found{}}, {[]int{5, 5, 6}, 0, found{2, 1, impl.ErrorSingle}}, {[]int{5, 7, 5}, 0, found{1, 2, impl.ErrorSingle}}, {[]int{-1, 5, 5}, 0, found{0, -6, impl.ErrorSingle}},
		{[]int{4, 5, 6}, 0, found{kind: impl.ErrorMany}}, {[]int{0, 0, 0, 1}, 1, found{3, 1, impl.ErrorSingle}}, {[]int{0, 0, 1, 1}, 1, found{kind: impl.ErrorMany}}, {[]int{0, 1, 8, 28, 64, 125, 216}, 3, found{3, 1, impl.ErrorSingle}},
		{[]int{0, 1, 0, 0, 1, 0}, 1, found{kind: impl.ErrorMany}}, {[]int{0, 1, 0, 0, 0, 0}, 1, found{1, 1, impl.ErrorSingle}}, {[]int{0, 1, 0, 0, 0, 1}, 0, found{kind: impl.ErrorMany}}, {make([]int, 9), 6, found{}},
	} {
		expectFound(t, c.values, c.degree, c.want)
	}
}

// The right entry or the amount is too great for a table.
func TestGreatErrors(t *testing.T) {
	for _, c := range []struct {
		values []int
		degree int
		want   found
	}{
		{[]int{-1000000000, 1000000000, 0, -1000000000}, 1, found{0, -3000000000, impl.ErrorSingle}},
		{[]int{1000000000, -1000000000, 0, 1000000000}, 1, found{0, 3000000000, impl.ErrorSingle}},
		{[]int{-1000000000, 0, 1000000000, -1000000000}, 1, found{3, -3000000000, impl.ErrorSingle}},
		{[]int{999999997, 1000000000, 7, 1000000000, 999999997}, 2, found{2, 7 - 1000000001, impl.ErrorSingle}},
		{[]int{-1000000000, 1000000000, 1000000000}, 0, found{0, -2000000000, impl.ErrorSingle}},
	} {
		expectFound(t, c.values, c.degree, c.want)
	}
	// A polynomial whose roots are all entries but three reaches the bounds beside
	// them, and goes far beyond at the end.
	for degree := 1; degree <= 6; degree++ {
		values := make([]int, degree+3)
		for i := range values {
			values[i] = 1000000000 / toInt(new(big.Int).MulRange(1, int64(degree)))
			for k := range degree {
				values[i] *= i - 2 - k
			}
		}
		amount := 5 - values[0]
		values[0] = 5
		expectFound(t, values, degree, found{0, amount, impl.ErrorSingle})
		slices.Reverse(values)
		expectFound(t, values, degree, found{degree + 2, amount, impl.ErrorSingle})
	}
}

func TestNoSearch(t *testing.T) {
	invalid := found{kind: impl.ErrorInvalid}
	for degree := range 7 {
		for length := 1; length <= degree+2; length++ {
			expectFound(t, make([]int, length), degree, invalid)
			expectFound(t, changedBy(make([]int, length), length-1, 1), degree, invalid)
		}
		expectFound(t, make([]int, degree+3), degree, found{})
		for _, values := range notTables() {
			expectFound(t, values, degree, invalid)
		}
	}
	for _, values := range someTables() {
		for _, degree := range notDegrees {
			expectFound(t, values, degree, invalid)
		}
	}
	for _, values := range notTables() {
		for _, degree := range notDegrees {
			expectFound(t, values, degree, invalid)
		}
	}
	// The entry that is no table's would be corrected.
	expectFound(t, []int{0, 0, 0, 0, 1000000001}, 1, invalid)
	expectFound(t, []int{-1000000001, 5, 5, 5, 5}, 0, invalid)
}

// All tables of the samples, clean ones, ones with an error and others.
func TestSearchOfSamples(t *testing.T) {
	for _, values := range someTables() {
		for degree := 0; degree <= 6 && degree+3 <= len(values); degree++ {
			expectFound(t, values, degree, wantedError(t, values, degree))
		}
	}
}
