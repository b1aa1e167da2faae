package tests

import (
	"fmt"
	"slices"
	"strings"
	"testing"

	"loop.example/differenceengine/impl"
)

// expectPage fails unless PageLines returns the wanted lines; none are wanted
// if the page cannot be printed.
func expectPage(t *testing.T, l impl.Layout, values []int, page int, want []string) {
	t.Helper()
	got, ok := impl.PageLines(l, values, page)
	expectLines(t, fmt.Sprintf("PageLines(%v, %v, %d)", l, values, page), got, ok, want, len(want) > 0)
}

func expectSums(t *testing.T, l impl.Layout, values []int, page int, want []int) {
	t.Helper()
	expectNumbers(t, fmt.Sprintf("PageSums(%v, %v, %d)", l, values, page), impl.PageSums(l, values, page), want)
}

// expectTable fails unless PrintTable returns the wanted text; no text is wanted
// if the table cannot be printed.
func expectTable(t *testing.T, l impl.Layout, values []int, want string) {
	t.Helper()
	got, ok := impl.PrintTable(l, values)
	expectText(t, fmt.Sprintf("PrintTable(%v, %v)", l, values), got, ok, want, want != "")
}

// columnSums returns the sums of the columns of a page.
func columnSums(l impl.Layout, values []int, page int) []int {
	sums := make([]int, l.Across)
	for i, p := range placesOf(l, len(values)) {
		if p.page == page {
			sums[p.column] += values[i]
		}
	}
	return sums
}

func TestPages(t *testing.T) {
	for _, l := range someLayouts() {
		for _, values := range tablesFor(l) {
			pages := pagesOf(l, len(values))
			for page := range pages {
				expectPage(t, l, values, page, printedPage(l, values, page))
				expectSums(t, l, values, page, columnSums(l, values, page))
			}
			for _, page := range []int{-1, -2, pages, pages + 1, 60, minInt, maxInt} {
				expectPage(t, l, values, page, nil)
				expectSums(t, l, values, page, nil)
			}
			text, _ := printedTable(l, values)
			expectTable(t, l, values, text)
		}
	}
}

func TestKnownTables(t *testing.T) {
	for _, c := range []struct {
		l      impl.Layout
		values []int
		want   string
	}{
		{layoutOf(2, 2, 3), []int{1, 20, -3, 4, 5}, "  1  -3\n 20   4\n\n  5\n"}, {layoutOf(2, 2, 3), []int{1}, "  1\n"}, {layoutOf(2, 2, 3), []int{1, 2}, "  1\n  2\n"}, {layoutOf(2, 2, 3), []int{1, 2, 3}, "  1   3\n  2\n"}, {layoutOf(2, 2, 3), []int{1, 2, 3, 4, 5, 6, 7}, "  1   3\n  2   4\n\n  5   7\n  6\n"},
		{layoutOf(1, 1, 1), []int{7, 8, 9}, "7\n\n8\n\n9\n"}, {layoutOf(1, 3, 2), []int{-1, 10, 2, 3, 4}, "-1 10  2\n\n 3  4\n"}, {layoutOf(3, 1, 2), []int{1, 2, 3, 4}, " 1\n 2\n 3\n\n 4\n"}, {layoutOf(3, 2, 1), []int{1, 2, 3, 4}, "1 4\n2\n3\n"}, {layoutOf(2, 3, 1), []int{1, 2, 3, 4}, "1 3\n2 4\n"}, {layoutOf(2, 3, 1), []int{1, 2, 3, 4, 5}, "1 3 5\n2 4\n"},
		{layoutOf(2, 1, 11), []int{-1000000000, 1000000000}, "-1000000000\n 1000000000\n"}, {layoutOf(2, 1, 12), []int{-1000000000, 0}, " -1000000000\n           0\n"}, {layoutOf(20, 6, 12), []int{0}, "           0\n"},
	} {
		expectTable(t, c.l, c.values, c.want)
		list, ok := impl.ReadTable(c.l, c.want)
		expectList(t, fmt.Sprintf("ReadTable(%v, %q)", c.l, c.want), list, ok, c.values, true)
		for page, text := range strings.Split(strings.TrimSuffix(c.want, "\n"), "\n\n") {
			expectPage(t, c.l, c.values, page, strings.Split(text, "\n"))
		}
	}
	expectSums(t, layoutOf(2, 2, 3), []int{1, 20, -3, 4, 5}, 0, []int{21, 1})
	expectSums(t, layoutOf(2, 2, 3), []int{1, 20, -3, 4, 5}, 1, []int{5, 0})
	expectSums(t, layoutOf(2, 6, 3), []int{1, 20, -3, 4, 5}, 0, []int{21, 1, 5, 0, 0, 0})
	expectSums(t, layoutOf(20, 6, 12), slices.Repeat([]int{1000000000}, 60), 0, []int{20000000000, 20000000000, 20000000000, 0, 0, 0})
	expectSums(t, layoutOf(20, 6, 12), slices.Repeat([]int{-1000000000}, 21), 0, []int{-20000000000, -1000000000, 0, 0, 0, 0})
}

// An entry that is too long in any place is so for its page and for the whole
// table, but not for other pages; sums do not depend on lengths.
func TestLongEntries(t *testing.T) {
	for _, l := range []impl.Layout{layoutOf(2, 2, 1), layoutOf(3, 2, 2), layoutOf(1, 1, 3), layoutOf(20, 6, 4), layoutOf(5, 6, 9), layoutOf(4, 2, 10)} {
		for _, long := range []int{tens(l.Wide), -tens(l.Wide - 1), 1000000000, -1000000000} {
			if len(fmt.Sprint(long)) <= l.Wide || farFrom(long, 0) > 1000000000 {
				continue
			}
			for at := range 17 {
				values := make([]int, 17)
				values[at] = long
				expectTable(t, l, values, "")
				for page := range pagesOf(l, 17) {
					want := printedPage(l, values, page)
					if !fitsOn(l, values, page) {
						want = nil
					}
					expectPage(t, l, values, page, want)
					expectSums(t, l, values, page, columnSums(l, values, page))
				}
			}
		}
	}
	expectTable(t, layoutOf(2, 2, 3), []int{1000}, "")
	expectTable(t, layoutOf(2, 2, 3), []int{-100}, "")
	expectTable(t, layoutOf(2, 2, 3), []int{999, -99}, "999\n-99\n")
	expectTable(t, layoutOf(1, 1, 10), []int{-1000000000}, "")
	expectTable(t, layoutOf(1, 1, 9), []int{1000000000}, "")
	expectPage(t, layoutOf(1, 1, 1), []int{1, 22, 3}, 0, []string{"1"})
	expectPage(t, layoutOf(1, 1, 1), []int{1, 22, 3}, 1, nil)
	expectPage(t, layoutOf(1, 1, 1), []int{1, 22, 3}, 2, []string{"3"})
}

func TestNoPages(t *testing.T) {
	none := func(l impl.Layout, values []int) {
		expectTable(t, l, values, "")
		for _, page := range []int{-1, 0, 1, 2, 59, minInt, maxInt} {
			expectPage(t, l, values, page, nil)
			expectSums(t, l, values, page, nil)
		}
	}
	for _, values := range notTables() {
		for _, l := range []impl.Layout{layoutOf(1, 1, 1), layoutOf(2, 2, 12), layoutOf(20, 6, 12), {}} {
			none(l, values)
		}
	}
	for _, l := range notLayouts() {
		for _, values := range [][]int{nil, {0}, {1, 2, 3}, make([]int, 60), make([]int, 61)} {
			none(l, values)
		}
	}
	// Pages whose first index would wrap around.
	for _, page := range []int{1 << 62, 1 << 61, 1<<62 + 1, -1 << 62, -1 << 63} {
		expectPage(t, layoutOf(2, 2, 3), []int{1, 2, 3, 4, 5}, page, nil)
		expectSums(t, layoutOf(2, 2, 3), []int{1, 2, 3, 4, 5}, page, nil)
	}
}

// The last page has as many rows as entries, as long as there is one column.
func TestLastPages(t *testing.T) {
	for _, l := range someLayouts() {
		for count := 1; count <= 60; count++ {
			last := pagesOf(l, count) - 1
			values := make([]int, count)
			lines, ok := impl.PageLines(l, values, last)
			expectNumber(t, fmt.Sprintf("the rows of the last page of %d entries in %v", count, l), len(lines), min(l.Rows, count-last*l.Rows*l.Across))
			if !ok {
				t.Errorf("PageLines(%v, %v, %d) returns false", l, values, last)
			}
			for row, line := range lines {
				cells := (count - last*l.Rows*l.Across - row + l.Rows - 1) / l.Rows
				expectNumber(t, fmt.Sprintf("the length of the row %d of %d entries in %v", row, count, l), len(line), cells*(l.Wide+1)-1)
			}
		}
	}
}

// All columns of all pages together have the sum of the table.
func TestSumsOfPages(t *testing.T) {
	for _, l := range someLayouts() {
		for _, values := range someTables() {
			rest := 0
			for _, n := range values {
				rest += n
			}
			for page := range pagesOf(l, len(values)) {
				for _, sum := range impl.PageSums(l, values, page) {
					rest -= sum
				}
			}
			expectNumber(t, fmt.Sprintf("what the pages of %v in %v leave of the sum", values, l), rest, 0)
		}
	}
}
