package tests

import (
	"fmt"
	"testing"

	"loop.example/differenceengine/impl"
)

// sampleTables are tables of all lengths: of values of polynomials, from
// negative arguments too, with errors, of zeros, of anything, and at the limits.
func sampleTables() [][]int {
	tables := [][]int{{0, 1, 4, 9}, {0, 1, 8, 27, 64, 125}, {1000000000}, {-1000000000}, {0, 0, 5}, {5, 0, 0}}
	throw := dice(7)
	for length := 1; length <= 60; length++ {
		mixed, loose, late, same := make([]int, length), make([]int, length), make([]int, length), make([]int, length)
		for i := range length {
			mixed[i], loose[i], same[i] = 1000000000-2000000000*(i%2), throw(-1000, 1000), -7
		}
		late[length-1] = 1
		tables = append(tables, make([]int, length), mixed, loose, late, same)
	}
	for _, p := range samplePolys() {
		for _, count := range []int{1, 2, 3, 4, 5, 6, 7, 8, 9, 29, 30, 31, 60} {
			for _, from := range []int{0, -4} {
				if values := rowFrom(p, from, count); isTable(values) {
					wrong := append([]int{}, values...)
					wrong[count/2] /= 2
					tables = append(tables, values, wrong)
				}
			}
		}
	}
	return tables
}

// definedDegree returns LeastDegree as the document defines it.
func definedDegree(values []int) int {
	for taken := range 8 {
		zero := true
		for at := 0; at+taken < len(values); at++ {
			zero = zero && definedDifference(values, taken, at) == 0
		}
		if zero {
			return taken - 1
		}
	}
	return 7
}

func TestTableValid(t *testing.T) {
	for _, values := range sampleTables() {
		if !impl.TableValid(values) {
			t.Errorf("TableValid(%v) = false", values)
		}
	}
	for _, values := range notTables() {
		if impl.TableValid(values) {
			t.Errorf("TableValid(%v) = true", values)
		}
	}
}

func TestDiffTable(t *testing.T) {
	for _, values := range sampleTables() {
		rows, firsts := impl.DiffTable(values), impl.DiffsOf(values)
		if len(values) > 30 {
			expectNumber(t, fmt.Sprintf("the rows of DiffTable(%v)", values), len(rows), 0)
			expectNumbers(t, fmt.Sprintf("DiffsOf(%v)", values), firsts, nil)
			continue
		}
		if len(rows) != len(values) || len(firsts) != len(values) {
			t.Errorf("%v has %d rows and %d first numbers", values, len(rows), len(firsts))
			continue
		}
		for order := range rows {
			want := []int{}
			for at := range len(values) - order {
				want = append(want, definedDifference(values, order, at))
			}
			expectNumbers(t, fmt.Sprintf("the row %d of DiffTable(%v)", order, values), rows[order], want)
			expectNumber(t, fmt.Sprintf("the number %d of DiffsOf(%v)", order, values), firsts[order], want[0])
		}
	}
}

// The greatest differences of all: 30 entries at the limits with signs in turn.
func TestGreatestDifferences(t *testing.T) {
	values := []int{}
	for i := range 30 {
		values = append(values, 1000000000-2000000000*(i%2))
	}
	firsts := impl.DiffsOf(values)
	if len(firsts) != 30 || firsts[29] != -(1<<29)*1000000000 {
		t.Errorf("DiffsOf(%v) = %v", values, firsts)
	}
	rows := impl.DiffTable(values)
	if len(rows) != 30 || len(rows[29]) != 1 || rows[29][0] != -(1<<29)*1000000000 {
		t.Errorf("DiffTable(%v) = %v", values, rows)
	}
}

func TestKnownDifferences(t *testing.T) {
	expectNumbers(t, "DiffsOf the squares", impl.DiffsOf([]int{0, 1, 4, 9}), []int{0, 1, 2, 0})
	expectNumbers(t, "DiffsOf one number", impl.DiffsOf([]int{-8}), []int{-8})
	if rows := fmt.Sprint(impl.DiffTable([]int{0, 1, 4, 9})); rows != "[[0 1 4 9] [1 3 5] [2 2] [0]]" {
		t.Errorf("DiffTable of the squares = %s", rows)
	}
	if rows := fmt.Sprint(impl.DiffTable([]int{-8})); rows != "[[-8]]" {
		t.Errorf("DiffTable of one number = %s", rows)
	}
}

func TestLeastDegree(t *testing.T) {
	for _, values := range sampleTables() {
		expectNumber(t, fmt.Sprintf("LeastDegree(%v)", values), impl.LeastDegree(values), definedDegree(values))
	}
	for _, c := range []struct {
		values []int
		want   int
	}{
		{[]int{0}, -1}, {[]int{7}, 0}, {[]int{-1000000000}, 0}, {[]int{0, 0}, -1}, {make([]int, 60), -1}, {[]int{5, 5, 5}, 0}, {[]int{0, 1}, 1}, {[]int{0, 1, 4}, 2}, {[]int{0, 1, 8}, 2},
		{[]int{0, 1, 8, 27}, 3}, {[]int{0, 1, 2, 3, 4}, 1}, {[]int{0, 0, 0, 0, 0, 0, 1}, 6}, {[]int{0, 0, 0, 0, 0, 0, 0, 1}, 7}, {[]int{0, 0, 0, 0, 0, 0, 0, 0, 1}, 7},
		{[]int{1, 0, 0, 0, 0, 0, 0, 0}, 7}, {[]int{1000000000, -1000000000}, 1}, {[]int{1, -1, 1, -1, 1, -1, 1}, 6}, {[]int{1, -1, 1, -1, 1, -1, 1, -1}, 7},
	} {
		expectNumber(t, fmt.Sprintf("LeastDegree(%v)", c.values), impl.LeastDegree(c.values), c.want)
	}
}

func TestInterpolate(t *testing.T) {
	for _, values := range sampleTables() {
		var want []int
		if degree := definedDegree(values); degree <= 6 {
			want = differencesOfValues(max(degree+1, 1), func(n int) int { return values[n] })
		}
		got, ok := impl.Interpolate(values)
		expectPoly(t, fmt.Sprintf("Interpolate(%v)", values), got, ok, want)
		for n, value := range values {
			if ok && definedValue(got, n) != value {
				t.Errorf("Interpolate(%v) = %v is wrong at %d", values, got, n)
			}
		}
	}
	for _, c := range []struct{ values, want []int }{
		{[]int{0, 1, 4, 9, 16}, []int{0, 1, 2}}, {[]int{0}, []int{0}}, {make([]int, 60), []int{0}}, {[]int{7}, []int{7}}, {[]int{7, 7, 7}, []int{7}}, {[]int{0, 1}, []int{0, 1}},
		{[]int{0, 1, 8}, []int{0, 1, 6}}, {[]int{0, 1, 8, 27, 64}, []int{0, 1, 6, 6}}, {[]int{0, 0, 0, 0, 0, 0, 1}, []int{0, 0, 0, 0, 0, 0, 1}}, {[]int{0, 0, 0, 0, 0, 0, 0, 1}, nil},
		{[]int{100000}, []int{100000}}, {[]int{-100000}, []int{-100000}}, {[]int{100001}, nil}, {[]int{-100001}, nil}, {[]int{1000000000}, nil},
		{[]int{100000, 0}, []int{100000, -100000}}, {[]int{100000, -1}, nil}, {[]int{0, 0, 100000}, []int{0, 0, 100000}}, {[]int{0, 0, 100001}, nil},
		{[]int{100000, 200000, 300000, 400000}, []int{100000, 100000}}, {[]int{0, 100001, 200002}, nil},
	} {
		got, ok := impl.Interpolate(c.values)
		expectPoly(t, fmt.Sprintf("Interpolate(%v)", c.values), got, ok, c.want)
	}
}

func TestNoTables(t *testing.T) {
	for _, values := range notTables() {
		expectNumber(t, fmt.Sprintf("the rows of DiffTable(%v)", values), len(impl.DiffTable(values)), 0)
		expectNumbers(t, fmt.Sprintf("DiffsOf(%v)", values), impl.DiffsOf(values), nil)
		expectNumber(t, fmt.Sprintf("LeastDegree(%v)", values), impl.LeastDegree(values), -2)
		got, ok := impl.Interpolate(values)
		expectNone(t, fmt.Sprintf("Interpolate(%v)", values), got, ok)
	}
}

// Promise 2: a polynomial is found from as many values as it has differences,
// and from more of them; its values are added up from the differences.
func TestPolynomialsAreFound(t *testing.T) {
	for _, p := range samplePolys() {
		for _, count := range []int{len(p), len(p) + 1, 30, 60} {
			values, ok := impl.ValuesOf(p, 0, count)
			expectList(t, fmt.Sprintf("ValuesOf(%v, 0, %d)", p, count), values, ok, addedUp(p, count), true)
			if !isTable(values) {
				continue
			}
			found, ok := impl.Interpolate(values)
			expectList(t, fmt.Sprintf("Interpolate of %d values of %v", count, p), found, ok, impl.TrimPoly(p), true)
			expectNumber(t, fmt.Sprintf("LeastDegree of %d values of %v", count, p), impl.LeastDegree(values), impl.DegreeOf(p))
		}
	}
}

// addedUp returns values of a polynomial by additions of neighbors alone.
func addedUp(p []int, count int) []int {
	row, values := append([]int{}, p...), []int{}
	for range count {
		values = append(values, row[0])
		next := append([]int{}, row...)
		for k := range len(row) - 1 {
			next[k] = row[k] + row[k+1]
		}
		row = next
	}
	return values
}

// A table that is shorter than a degree has a polynomial of a lesser degree,
// which has the same values as far as the table goes.
func TestShortTables(t *testing.T) {
	for _, p := range samplePolys() {
		for count := 1; count < len(p); count++ {
			for _, from := range []int{0, -6, 3} {
				values := rowFrom(p, from, count)
				if !isTable(values) {
					continue
				}
				if degree := impl.LeastDegree(values); degree >= count {
					t.Errorf("LeastDegree(%v) = %d", values, degree)
				}
				found, ok := impl.Interpolate(values)
				if len(found) > count || ok && fmt.Sprint(rowFrom(found, 0, count)) != fmt.Sprint(values) {
					t.Errorf("Interpolate(%v) = %v, %v", values, found, ok)
				}
			}
		}
	}
}
