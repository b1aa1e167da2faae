package tests

import (
	"fmt"
	"testing"

	"loop.example/differenceengine/impl"
)

func expectLayout(t *testing.T, l impl.Layout, want bool) {
	t.Helper()
	if got := impl.LayoutValid(l); got != want {
		t.Errorf("LayoutValid(%v) = %v; want %v", l, got, want)
	}
}

func TestLayoutValid(t *testing.T) {
	for rows := -1; rows <= 22; rows++ {
		for across := -1; across <= 8; across++ {
			for wide := -1; wide <= 14; wide++ {
				l := layoutOf(rows, across, wide)
				expectLayout(t, l, isLayout(l))
			}
		}
	}
	for _, l := range notLayouts() {
		expectLayout(t, l, false)
	}
}

func TestKnownLayouts(t *testing.T) {
	for _, l := range []impl.Layout{layoutOf(1, 1, 1), layoutOf(20, 6, 12), layoutOf(20, 1, 1), layoutOf(1, 6, 1), layoutOf(1, 1, 12), layoutOf(5, 2, 8)} {
		expectLayout(t, l, true)
	}
	for _, l := range []impl.Layout{{}, layoutOf(0, 1, 1), layoutOf(1, 0, 1), layoutOf(1, 1, 0), layoutOf(21, 1, 1), layoutOf(1, 7, 1), layoutOf(1, 1, 13), layoutOf(-1, -1, 1)} {
		expectLayout(t, l, false)
	}
}

func expectPages(t *testing.T, l impl.Layout, count, want int) {
	t.Helper()
	expectNumber(t, fmt.Sprintf("PagesNeeded(%v, %d)", l, count), impl.PagesNeeded(l, count), want)
}

func TestPagesNeeded(t *testing.T) {
	for _, l := range someLayouts() {
		for count := range 61 {
			expectPages(t, l, count, pagesOf(l, count))
		}
		for _, count := range notCounts {
			expectPages(t, l, count, -1)
		}
	}
	for _, l := range notLayouts() {
		for _, count := range []int{-1, 0, 1, 2, 59, 60, 61, minInt, maxInt} {
			expectPages(t, l, count, -1)
		}
	}
}

func TestKnownPages(t *testing.T) {
	for _, c := range []struct{ rows, across, count, want int }{
		{2, 2, 0, 0}, {2, 2, 1, 1}, {2, 2, 4, 1}, {2, 2, 5, 2}, {2, 2, 8, 2}, {2, 2, 9, 3}, {2, 2, 60, 15}, {2, 2, 61, -1}, {2, 2, -1, -1}, {1, 1, 60, 60}, {1, 1, 1, 1}, {20, 3, 60, 1}, {20, 3, 59, 1}, {20, 6, 60, 1}, {20, 6, 0, 0}, {7, 1, 60, 9}, {1, 6, 55, 10},
	} {
		expectPages(t, layoutOf(c.rows, c.across, 1), c.count, c.want)
	}
}

func expectPlace(t *testing.T, l impl.Layout, index int, want place, wantOK bool) {
	t.Helper()
	page, row, column, ok := impl.PlaceOf(l, index)
	if got := (place{page, row, column}); got != want || ok != wantOK {
		t.Errorf("PlaceOf(%v, %d) = %v, %v; want %v, %v", l, index, got, ok, want, wantOK)
	}
}

func expectIndex(t *testing.T, l impl.Layout, p place, want int) {
	t.Helper()
	if got := impl.IndexOfPlace(l, p.page, p.row, p.column); got != want {
		t.Errorf("IndexOfPlace(%v, %d, %d, %d) = %d; want %d", l, p.page, p.row, p.column, got, want)
	}
}

func TestPlaceOf(t *testing.T) {
	for _, l := range someLayouts() {
		for index, p := range placesOf(l, 60) {
			expectPlace(t, l, index, p, true)
		}
		for _, index := range []int{-1, -2, -60, 60, 61, 119, 1000, minInt, maxInt} {
			expectPlace(t, l, index, place{}, false)
		}
	}
	for _, l := range notLayouts() {
		for _, index := range []int{-1, 0, 1, 2, 59, 60, minInt, maxInt} {
			expectPlace(t, l, index, place{}, false)
		}
	}
}

func TestKnownPlaces(t *testing.T) {
	for _, c := range []struct {
		rows, across, index int
		want                place
	}{
		{2, 2, 0, place{0, 0, 0}}, {2, 2, 1, place{0, 1, 0}}, {2, 2, 2, place{0, 0, 1}}, {2, 2, 3, place{0, 1, 1}}, {2, 2, 4, place{1, 0, 0}}, {2, 2, 7, place{1, 1, 1}}, {1, 1, 59, place{59, 0, 0}},
		{3, 2, 3, place{0, 0, 1}}, {3, 2, 5, place{0, 2, 1}}, {2, 3, 3, place{0, 1, 1}}, {2, 3, 5, place{0, 1, 2}}, {2, 3, 6, place{1, 0, 0}}, {20, 6, 59, place{0, 19, 2}}, {20, 1, 59, place{2, 19, 0}}, {1, 6, 59, place{9, 0, 5}},
	} {
		l := layoutOf(c.rows, c.across, 12)
		expectPlace(t, l, c.index, c.want, true)
		expectIndex(t, l, c.want, c.index)
	}
}

func TestIndexOfPlace(t *testing.T) {
	for _, l := range someLayouts() {
		indices := map[place]int{}
		for index, p := range placesOf(l, 60) {
			indices[p] = index
		}
		for page := -2; page <= pagesOf(l, 60)+1; page++ {
			for row := -2; row <= l.Rows+1; row++ {
				for column := -2; column <= l.Across+1; column++ {
					p := place{page, row, column}
					want, ok := indices[p]
					if !ok {
						want = -1
					}
					expectIndex(t, l, p, want)
				}
			}
		}
	}
	for _, l := range notLayouts() {
		for _, n := range []int{-1, 0, 1, 2} {
			expectIndex(t, l, place{n, 0, 0}, -1)
			expectIndex(t, l, place{0, n, 0}, -1)
			expectIndex(t, l, place{0, 0, n}, -1)
		}
	}
}

// Numbers so great that products with them wrap around are those of no place,
// nor are numbers of a place that is beyond the end of a row or a column.
func TestNoPlaces(t *testing.T) {
	great := []int{minInt, minInt + 1, maxInt, maxInt - 1}
	for bits := 5; bits < 63; bits++ {
		great = append(great, 1<<bits, -1<<bits, 1<<bits+1, -1<<bits+1)
	}
	for _, l := range someLayouts() {
		for _, n := range great {
			if n >= 0 && n < 60 {
				continue
			}
			for _, small := range []int{0, 1, -n} {
				expectIndex(t, l, place{n, small, 0}, -1)
				expectIndex(t, l, place{n, 0, small}, -1)
				expectIndex(t, l, place{0, n, small}, -1)
				expectIndex(t, l, place{small, n, 0}, -1)
				expectIndex(t, l, place{0, small, n}, -1)
				expectIndex(t, l, place{small, 0, n}, -1)
			}
			expectIndex(t, l, place{n, n, n}, -1)
		}
	}
	two := layoutOf(2, 2, 3)
	for _, p := range []place{{0, 2, 0}, {0, 0, 2}, {0, -1, 1}, {1, 0, -1}, {-1, 0, 2}, {1, -4, 0}, {15, 0, 0}, {14, 2, 1}, {0, 3, 0}, {0, 59, 0}, {0, 0, 29}} {
		expectIndex(t, two, p, -1)
	}
	expectIndex(t, two, place{14, 1, 1}, 59)
	expectIndex(t, layoutOf(20, 6, 1), place{0, 19, 2}, 59)
	expectIndex(t, layoutOf(20, 6, 1), place{0, 0, 3}, -1)
}
