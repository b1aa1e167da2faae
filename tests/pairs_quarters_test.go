package tests

import (
	"fmt"
	"slices"
	"testing"

	"loop.example/differenceengine/impl"
)

// someNumbers returns numbers of any size, those that no table has included.
func someNumbers(count int, seed uint64) []int {
	throw, list := dice(seed), []int{}
	for range count {
		list = append(list, []int{throw(-9, 9), throw(-1000000000, 1000000000), maxInt, minInt, 1000000001}[throw(0, 4)])
	}
	return list
}

func TestInterleave(t *testing.T) {
	for first := range 63 {
		for second := range 63 {
			a, b := someNumbers(first, 5), someNumbers(second, 6)
			got, ok := impl.Interleave(a, b)
			call := fmt.Sprintf("Interleave of %d and %d numbers", first, second)
			if first+second > 60 || first != second && first != second+1 {
				expectNone(t, call, got, ok)
				continue
			}
			want := []int{}
			for i := range first {
				want = append(want, a[i])
				if i < second {
					want = append(want, b[i])
				}
			}
			expectList(t, call, got, ok, want, true)
			one, other := impl.DealTable(got)
			expectNumbers(t, "the first numbers dealt of "+call, one, a)
			expectNumbers(t, "the others dealt of "+call, other, b)
		}
	}
	for _, c := range []struct{ first, second int }{{1000, 1000}, {1000, 999}, {61, 0}, {0, 61}, {100, 1}} {
		got, ok := impl.Interleave(make([]int, c.first), make([]int, c.second))
		expectNone(t, fmt.Sprintf("Interleave of %d and %d numbers", c.first, c.second), got, ok)
	}
}

func TestDealTable(t *testing.T) {
	for count := range 61 {
		list := someNumbers(count, 7)
		first, second := impl.DealTable(list)
		wantFirst, wantSecond := []int{}, []int{}
		for i := 0; i < count; i += 2 {
			wantFirst = append(wantFirst, list[i])
		}
		for i := 1; i < count; i += 2 {
			wantSecond = append(wantSecond, list[i])
		}
		call := fmt.Sprintf("DealTable(%v)", list)
		expectNumbers(t, call+", first", first, wantFirst)
		expectNumbers(t, call+", second", second, wantSecond)
		again, ok := impl.Interleave(first, second)
		expectList(t, "Interleave after "+call, again, ok, list, true)
	}
	for _, count := range []int{61, 62, 120, 1000} {
		first, second := impl.DealTable(make([]int, count))
		if len(first) != 0 || len(second) != 0 {
			t.Errorf("DealTable of %d numbers = %v, %v", count, first, second)
		}
	}
}

// quarterOf tries all numbers for the quarter of a square.
func quarterOf(n int) int {
	quarter := 0
	for 4*(quarter+1) <= n*n {
		quarter++
	}
	return quarter
}

func TestQuarterSquare(t *testing.T) {
	for n := range 60 {
		expectNumber(t, fmt.Sprintf("QuarterSquare(%d)", n), impl.QuarterSquare(n), quarterOf(n))
	}
	for _, n := range []int{-1, -2, -59, 60, 61, 1000, minInt, minInt + 1, maxInt, 1 << 32, 1 << 62} {
		expectNumber(t, fmt.Sprintf("QuarterSquare(%d)", n), impl.QuarterSquare(n), -1)
	}
}

// Promise 7: the quarter squares are the same table as two engines print that
// share the work, of which one has the even arguments.
func TestQuarterTable(t *testing.T) {
	for count := range 61 {
		want := []int{}
		for n := range count {
			want = append(want, quarterOf(n))
		}
		table := impl.QuarterTable(count)
		expectNumbers(t, fmt.Sprintf("QuarterTable(%d)", count), table, want)
		results, ok := impl.RunSteps([]impl.Engine{engineOf("0000", "0001", "0002"), engineOf("0000", "0002", "0002")}, count)
		expectList(t, "quarter squares of two engines", results, ok, want, true)
	}
	for _, count := range notCounts {
		expectNumbers(t, fmt.Sprintf("QuarterTable(%d)", count), impl.QuarterTable(count), nil)
	}
}

// wantedProduct returns the difference of two entries, if there are such ones.
func wantedProduct(table []int, x, y int) (int, bool) {
	upper, lower := x+y, x-y
	if lower < 0 {
		lower = y - x
	}
	if !isTable(table) || x < 0 || y < 0 || x > 59 || y > 59 || upper >= len(table) {
		return 0, false
	}
	return table[upper] - table[lower], true
}

func TestProductOf(t *testing.T) {
	tables := [][]int{impl.QuarterTable(60), impl.QuarterTable(20), {0}, {5}, {1000000000, -1000000000}, {-1000000000, 1000000000}, {3, 1, 4, 1, 5}, slices.Repeat([]int{7}, 60)}
	for _, count := range []int{2, 3, 30, 59, 60} {
		table, throw := []int{}, dice(uint64(count))
		for range count {
			table = append(table, throw(-1000000000, 1000000000))
		}
		tables = append(tables, table)
	}
	for _, table := range tables {
		for x := -2; x <= 62; x++ {
			for y := -2; y <= 62; y++ {
				want, wantOK := wantedProduct(table, x, y)
				if n, ok := impl.ProductOf(table, x, y); n != want || ok != wantOK {
					t.Errorf("ProductOf(%v, %d, %d) = %d, %v; want %d, %v", table, x, y, n, ok, want, wantOK)
				}
			}
		}
	}
}

// With quarter squares, it is the product.
func TestProducts(t *testing.T) {
	for count := 1; count <= 60; count++ {
		table := impl.QuarterTable(count)
		for x := range count {
			for y := range count - x {
				if n, ok := impl.ProductOf(table, x, y); n != x*y || !ok {
					t.Errorf("%d times %d = %d, %v with %d quarter squares", x, y, n, ok, count)
				}
			}
			if n, ok := impl.ProductOf(table, x, count-x); n != 0 || ok {
				t.Errorf("%d times %d = %d, %v with %d quarter squares", x, count-x, n, ok, count)
			}
		}
	}
}

func TestNoProducts(t *testing.T) {
	none := func(table []int, x, y int) {
		if n, ok := impl.ProductOf(table, x, y); n != 0 || ok {
			t.Errorf("ProductOf(%v, %d, %d) = %d, %v; want 0, false", table, x, y, n, ok)
		}
	}
	for _, table := range notTables() {
		none(table, 0, 0)
		none(table, 1, 0)
		none(table, 7, 8)
	}
	table := impl.QuarterTable(60)
	for _, n := range []int{-1, -2, 60, 61, 1000, minInt, minInt + 1, maxInt, maxInt - 1} {
		for _, m := range []int{0, 1, 2, 59, n, -n} {
			none(table, n, m)
			none(table, m, n)
		}
	}
}

func TestKnownProducts(t *testing.T) {
	table := impl.QuarterTable(20)
	for _, c := range []struct {
		x, y, want int
		ok         bool
	}{{7, 8, 56, true}, {8, 7, 56, true}, {12, 8, 0, false}, {19, 0, 0, true}, {0, 19, 0, true}, {20, 0, 0, false}, {10, 9, 90, true}, {9, 9, 81, true}, {10, 10, 0, false}, {1, 1, 1, true}, {0, 0, 0, true}} {
		if n, ok := impl.ProductOf(table, c.x, c.y); n != c.want || ok != c.ok {
			t.Errorf("ProductOf(quarter squares, %d, %d) = %d, %v; want %d, %v", c.x, c.y, n, ok, c.want, c.ok)
		}
	}
	for _, c := range []struct{ x, y, want int }{{2, 1, -2}, {1, 2, -2}, {1, 1, 3}, {2, 2, 2}, {4, 0, 0}, {3, 1, -1}, {3, 2, -1}, {2, 3, -1}} {
		if n, ok := impl.ProductOf([]int{2, 7, 5, 5, 4, 6}, c.x, c.y); n != c.want || !ok {
			t.Errorf("ProductOf([2 7 5 5 4 6], %d, %d) = %d, %v; want %d", c.x, c.y, n, ok, c.want)
		}
	}
	quarters := impl.QuarterTable(11)
	expectNumbers(t, "QuarterTable(11)", quarters, []int{0, 0, 1, 2, 4, 6, 9, 12, 16, 20, 25})
}
