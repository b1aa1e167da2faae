package tests

import (
	"fmt"
	"slices"
	"strconv"
	"strings"
	"testing"

	"loop.example/differenceengine/impl"
)

// The helpers here follow the definitions of the document: they try all whole
// numbers near a quotient, walk from place to place, and look up what is read
// among all that could have been printed.

// farFrom returns the difference of two numbers without regard to its sign.
func farFrom(a, b int) int { return max(a-b, b-a) }

// rounded returns what RoundEntry is to return for valid arguments, of all whole
// numbers near the quotient.
func rounded(n, digits, way int) int {
	power := tens(digits)
	best := n/power - 3
	for q := best; q <= n/power+3; q++ {
		difference := farFrom(n, q*power) - farFrom(n, best*power)
		switch {
		case way == 0:
			if q*power <= n {
				best = q
			}
		case difference < 0:
			best = q
		case difference == 0 && way == 1:
			if farFrom(q, 0) > farFrom(best, 0) {
				best = q
			}
		case difference == 0 && q%2 == 0:
			best = q
		}
	}
	return best
}

func roundedTable(values []int, digits, way int) []int {
	list := []int{}
	for _, n := range values {
		list = append(list, rounded(n, digits, way))
	}
	return list
}

// notGuards are numbers that are not numbers of digits that can be left out.
var notGuards = []int{-1, -2, -6, 7, 8, 9, 12, 18, 100, minInt, maxInt}

// notWays are numbers that are not ways of rounding.
var notWays = []int{-1, -2, 3, 4, 10, minInt, maxInt}

// beyondEntries are numbers that are too great for an entry.
var beyondEntries = []int{1000000001, -1000000001, 1000000005, 2000000000, -9999999999, minInt, minInt + 1, maxInt, maxInt - 1}

// numbersToRound are all small numbers, those near halves and multiples of all
// powers of ten, and those at the bounds.
func numbersToRound() []int {
	numbers := []int{123456789, -123456789, 999999999, -999999999, 1000000000, -1000000000, 999999500, -999999500, 999500000, -999500000, 987654321, -499999999}
	for n := -130; n <= 130; n++ {
		numbers = append(numbers, n)
	}
	throw := dice(11)
	for digits := 1; digits <= 6; digits++ {
		half := tens(digits) / 2
		for k := -12; k <= 12; k++ {
			numbers = append(numbers, k*half-1, k*half, k*half+1, 10*k*half+half, 3*tens(6)+k*half)
		}
		for range 40 {
			numbers = append(numbers, throw(-1000000000, 1000000000), throw(-half*20, half*20))
		}
	}
	return numbers
}

// tablesToRound are tables, those of numbers near halves among them.
func tablesToRound() [][]int {
	tables := someTables()
	numbers := numbersToRound()
	for from := 0; from < len(numbers); from += 37 {
		tables = append(tables, numbers[from:min(from+60, len(numbers))], numbers[from:from+1])
	}
	return tables
}

// grouped returns the text of a number with its digits in groups.
func grouped(n int) string {
	switch {
	case n < 0:
		return "-" + grouped(-n)
	case n < 1000:
		return strconv.Itoa(n)
	}
	return grouped(n/1000) + fmt.Sprintf(" %03d", n%1000)
}

// shortened returns what ShortenColumn is to return for columns of the same
// width: a digit is left out if all digits up to it stand above.
func shortened(list []string) []string {
	short := []string{}
	for i, c := range list {
		text := ""
		for j := range len(c) {
			if i > 0 && j < len(c)-1 && c[:j+1] == list[i-1][:j+1] {
				text += " "
			} else {
				text += c[j : j+1]
			}
		}
		short = append(short, text)
	}
	return short
}

func layoutOf(rows, across, wide int) impl.Layout {
	return impl.Layout{Rows: rows, Across: across, Wide: wide}
}

// isLayout reports what the document calls a layout.
func isLayout(l impl.Layout) bool {
	return l.Rows >= 1 && l.Rows <= 20 && l.Across >= 1 && l.Across <= 6 && l.Wide >= 1 && l.Wide <= 12
}

// someLayouts are layouts of all numbers of rows, columns and bytes, but not
// each of them with each other one.
func someLayouts() []impl.Layout {
	layouts := []impl.Layout{layoutOf(2, 2, 3), layoutOf(1, 1, 1), layoutOf(20, 6, 12), layoutOf(20, 3, 11), layoutOf(10, 6, 4)}
	for rows := 1; rows <= 20; rows++ {
		for across := 1; across <= 6; across++ {
			layouts = append(layouts, layoutOf(rows, across, 1+(rows+2*across)%12))
		}
	}
	return layouts
}

// notLayouts have one number that no layout has, with all others within bounds,
// and some have several.
func notLayouts() []impl.Layout {
	layouts := []impl.Layout{{}, layoutOf(0, 0, 1), layoutOf(-1, -1, 1), layoutOf(-2, -3, -1), layoutOf(21, 7, 13)}
	for _, n := range []int{0, -1, -2, 21, 22, 61, 1000, minInt, maxInt} {
		layouts = append(layouts, layoutOf(n, 1, 1), layoutOf(n, 2, 3), layoutOf(n, 6, 12))
	}
	for _, n := range []int{0, -1, -2, 7, 8, 61, 1000, minInt, maxInt} {
		layouts = append(layouts, layoutOf(1, n, 1), layoutOf(2, n, 3), layoutOf(20, n, 12))
	}
	for _, n := range []int{0, -1, -2, 13, 14, 61, 1000, minInt, maxInt} {
		layouts = append(layouts, layoutOf(1, 1, n), layoutOf(2, 2, n), layoutOf(20, 6, n))
	}
	return layouts
}

// A place is where an entry stands.
type place struct {
	page, row, column int
}

// placesOf walks through the places of the first entries.
func placesOf(l impl.Layout, count int) []place {
	places := []place{}
	for page := 0; ; page++ {
		for column := range l.Across {
			for row := range l.Rows {
				if len(places) == count {
					return places
				}
				places = append(places, place{page, row, column})
			}
		}
	}
}

// pagesOf returns how many pages the first entries need.
func pagesOf(l impl.Layout, count int) int {
	pages := 0
	for _, p := range placesOf(l, count) {
		pages = max(pages, p.page+1)
	}
	return pages
}

// printedPage returns the lines of a page, whether its entries are too long or
// not; none if there is no such page.
func printedPage(l impl.Layout, values []int, page int) []string {
	lines := []string{}
	for row := range l.Rows {
		cells := []string{}
		for i, p := range placesOf(l, len(values)) {
			if p.page == page && p.row == row {
				cells = append(cells, fmt.Sprintf("%*d", l.Wide, values[i]))
			}
		}
		if len(cells) > 0 {
			lines = append(lines, strings.Join(cells, " "))
		}
	}
	return lines
}

// fitsOn reports whether all entries on a page have a place that is wide enough.
func fitsOn(l impl.Layout, values []int, page int) bool {
	for i, p := range placesOf(l, len(values)) {
		if p.page == page && len(strconv.Itoa(values[i])) > l.Wide {
			return false
		}
	}
	return true
}

// printedTable returns the text of all pages; false if an entry is too long.
func printedTable(l impl.Layout, values []int) (string, bool) {
	text := ""
	for page := range pagesOf(l, len(values)) {
		if !fitsOn(l, values, page) {
			return "", false
		}
		if page > 0 {
			text += "\n"
		}
		for _, line := range printedPage(l, values, page) {
			text += line + "\n"
		}
	}
	return text, true
}

// tablesFor returns tables for a layout: of all lengths near those of its
// columns and pages, with entries that are as long as possible, negative and
// zero.
func tablesFor(l impl.Layout) [][]int {
	throw := dice(uint64(12 + l.Rows + 20*l.Across + 120*l.Wide))
	most := min(tens(l.Wide)-1, 1000000000)
	least := -min(tens(l.Wide-1)-1, 1000000000)
	tables := [][]int{}
	for _, length := range []int{1, 2, l.Rows - 1, l.Rows, l.Rows + 1, l.Rows*l.Across - 1, l.Rows * l.Across, l.Rows*l.Across + 1, 2*l.Rows*l.Across + 1, 37, 59, 60} {
		if length < 1 || length > 60 {
			continue
		}
		values := make([]int, length)
		for i := range length {
			values[i] = []int{throw(least, most), throw(max(least, -9), min(most, 9)), most, least, 0, throw(0, 9)}[throw(0, 5)]
		}
		tables = append(tables, values)
	}
	return tables
}

// allWords returns all strings of some bytes that are at most as long.
func allWords(letters string, length int) []string {
	words := []string{""}
	for from := 0; length > 0; length-- {
		to := len(words)
		for _, word := range words[from:to] {
			for i := range len(letters) {
				words = append(words, word+letters[i:i+1])
			}
		}
		from = to
	}
	return words
}

// allLists returns all lists with at most as many of some elements, the empty
// list included.
func allLists[T any](elements []T, length int) [][]T {
	lists := [][]T{{}}
	for from := 0; length > 0; length-- {
		to := len(lists)
		for _, list := range lists[from:to] {
			for _, element := range elements {
				lists = append(lists, slices.Concat(list, []T{element}))
			}
		}
		from = to
	}
	return lists
}

// expectLines fails unless a call returned the wanted lines and verdict.
func expectLines(t *testing.T, call string, got []string, ok bool, want []string, wantOK bool) {
	t.Helper()
	if !slices.Equal(got, want) || ok != wantOK {
		t.Errorf("%s = %q, %v; want %q, %v", call, got, ok, want, wantOK)
	}
}

func TestPrintLimits(t *testing.T) {
	const (
		down   = impl.RoundDown
		near   = impl.RoundNear
		even   = impl.RoundEven
		guard  = impl.MaxGuard
		rows   = impl.MaxRows
		across = impl.MaxAcross
		wide   = impl.MaxWide
		plate  = impl.MaxPlate
		long   = impl.MaxLong
		table  = impl.MaxTable
		entry  = impl.MaxEntry
		wheels = impl.MaxWheels
	)
	expectNumbers(t, "the ways", []int{down, near, even}, []int{0, 1, 2})
	expectNumbers(t, "the limits", []int{guard, rows, across, wide, plate, long, table, entry, wheels}, []int{6, 20, 6, 12, 40, 100, 60, 1000000000, 12})
}

// The samples have to be what they are said to be.
func TestSamplesOfPrinting(t *testing.T) {
	for _, values := range tablesToRound() {
		if !isTable(values) {
			t.Errorf("%v is no table", values)
		}
	}
	for _, l := range someLayouts() {
		if !isLayout(l) {
			t.Errorf("%v is no layout", l)
		}
		for _, values := range tablesFor(l) {
			if _, ok := printedTable(l, values); !ok || !isTable(values) {
				t.Errorf("%v has entries that are too long for %v, or is no table", values, l)
			}
		}
	}
	for _, l := range notLayouts() {
		if isLayout(l) {
			t.Errorf("%v is a layout", l)
		}
	}
	for _, c := range []struct{ n, digits, way, want int }{{-5, 1, 0, -1}, {-5, 1, 1, -1}, {-5, 1, 2, 0}, {15, 1, 2, 2}, {25, 1, 2, 2}, {25, 1, 1, 3}, {-1, 6, 0, -1}, {7, 0, 2, 7}} {
		expectNumber(t, fmt.Sprintf("rounded(%d, %d, %d)", c.n, c.digits, c.way), rounded(c.n, c.digits, c.way), c.want)
	}
	expectText(t, "a grouped number", grouped(-1002003), true, "-1 002 003", true)
	expectText(t, "the words", fmt.Sprintf("%q", allWords("ab", 2)), true, `["" "a" "b" "aa" "ab" "ba" "bb"]`, true)
	expectText(t, "the lists", fmt.Sprint(allLists([]int{1, 2}, 2)), true, "[[] [1] [2] [1 1] [1 2] [2 1] [2 2]]", true)
}
