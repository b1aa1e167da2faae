package tests

import (
	"fmt"
	"slices"
	"strconv"
	"strings"
	"testing"

	"loop.example/differenceengine/impl"
)

// expectRead fails unless ReadPage returns the wanted entries; none are wanted
// if the lines are not a page.
func expectRead(t *testing.T, l impl.Layout, lines []string, want []int) {
	t.Helper()
	got, ok := impl.ReadPage(l, lines)
	expectList(t, fmt.Sprintf("ReadPage(%v, %q)", l, lines), got, ok, want, len(want) > 0)
}

// expectReadTable fails unless ReadTable returns the wanted table; none is
// wanted if the text is not that of a table.
func expectReadTable(t *testing.T, l impl.Layout, text string, want []int) {
	t.Helper()
	got, ok := impl.ReadTable(l, text)
	expectList(t, fmt.Sprintf("ReadTable(%v, %q)", l, text), got, ok, want, len(want) > 0)
}

// Promise 6: what is printed is read back.
func TestPrintedIsRead(t *testing.T) {
	for _, l := range someLayouts() {
		for _, values := range tablesFor(l) {
			text, _ := printedTable(l, values)
			expectReadTable(t, l, text, values)
			printed, _ := impl.PrintTable(l, values)
			expectReadTable(t, l, printed, values)
			places := l.Rows * l.Across
			for page := range pagesOf(l, len(values)) {
				expectRead(t, l, printedPage(l, values, page), values[page*places:min(page*places+places, len(values))])
			}
		}
	}
}

// allTables returns all tables of some numbers that are at most as long.
func allTables(numbers []int, length int) [][]int { return allLists(numbers, length)[1:] }

// smallPrints are small layouts with the numbers that are as long as their
// entries may be.
var smallPrints = []struct {
	l       impl.Layout
	numbers []int
}{
	{layoutOf(1, 1, 1), []int{0, 1}}, {layoutOf(2, 1, 1), []int{0, 1}}, {layoutOf(1, 2, 1), []int{0, 1}}, {layoutOf(2, 2, 1), []int{0, 1}}, {layoutOf(3, 2, 1), []int{0, 1}}, {layoutOf(2, 3, 1), []int{0, 1}},
	{layoutOf(1, 1, 2), []int{0, 1, 10, 11, -1}}, {layoutOf(2, 1, 2), []int{0, 1, 10, 11, -1}}, {layoutOf(1, 2, 2), []int{0, 1, 10, 11, -1}}, {layoutOf(2, 2, 2), []int{0, 1, 10, 11, -1}},
}

// Short lines of digits, signs and spaces are looked up among all pages.
func TestReadAllPages(t *testing.T) {
	for _, c := range smallPrints {
		wanted := map[string][]int{}
		for _, values := range allTables(c.numbers, min(c.l.Rows*c.l.Across, 4)) {
			wanted[fmt.Sprintf("%q", printedPage(c.l, values, 0))] = values
		}
		for length, count := range map[int]int{5: 1, 3: 2, 1: 4} {
			for _, lines := range allLists(allWords("01 -", length), count) {
				expectRead(t, c.l, lines, wanted[fmt.Sprintf("%q", lines)])
			}
		}
	}
}

// Short texts of digits, spaces and newlines are looked up among all tables.
func TestReadAllTables(t *testing.T) {
	for _, letters := range []string{"01 \n", "1- \n"} {
		texts := allWords(letters, 8)
		for _, c := range smallPrints {
			wanted := map[string][]int{}
			for _, values := range allTables(c.numbers, 4) {
				text, _ := printedTable(c.l, values)
				wanted[text] = values
			}
			for _, text := range texts {
				got, ok := impl.ReadTable(c.l, text)
				if want := wanted[text]; !slices.Equal(got, want) || ok != (len(want) > 0) {
					t.Fatalf("ReadTable(%v, %q) = %v, %v; want %v", c.l, text, got, ok, want)
				}
			}
		}
	}
}

// Lines that only look like a page of two rows, two columns and three bytes.
func TestNoReadPage(t *testing.T) {
	l := layoutOf(2, 2, 3)
	for _, lines := range [][]string{
		nil, {}, {""}, {"", ""}, {" "}, {"   "}, {"       "}, {"1"}, {" 1"}, {"   1"}, {"1  "}, {" 1 "}, {"  1 "}, {"  1  "}, {"  1   "}, {"  1    "}, {"  1  2"}, {"  1   2"}, {"  1   2 "}, {"  1    2"}, {"  1\t  2"}, {"  1,  2"}, {"  10  2"},
		{"  x"}, {" 01"}, {"001"}, {"000"}, {" -0"}, {" +1"}, {"+01"}, {"- 1"}, {"--1"}, {" 1-"}, {"  -"}, {"1.0"}, {"1e1"}, {"0x1"}, {"1_0"}, {" \t1"}, {"\n 1"}, {"  1\n"}, {"\xff 1"}, {"\u00a01"}, {"\u06611"}, {"\x00 1"},
		{"  1", "  2  3"}, {"  1", "  2   3"}, {"  1   2", "  3   4", "  5"}, {"  1", "  2", "  3"}, {"  1   2   3"}, {"  1   2   3", "  4"}, {"  1   2"}, {"", "  1"}, {"  1", ""}, {"  1   2", ""}, {"  1   2", " "}, {"  1   2", "  x"}, {"  x   2", "  1"}, {"  1   x", "  2"}, {"  1   x", "  2   3"}, {"  1   2", "  3   x"}, {"  1   2", "  3    "}, {"  1   2", "        3"}, {"  1   2", "  3 "}, {"  1    ", "  2"}, {"  1   2", "      3"}, {"      2", "  1   3"},
		{"1000", "2000"}, {"1000"}, {"-100"}, {"  1   2\n  3"}, {"  1\n  2"}, {"  1", "  2\n"}, {strings.Repeat(" ", 1000)}, {strings.Repeat("1", 1000)}, {strings.Repeat("  1 ", 300)}, slices.Repeat([]string{"  1"}, 1000),
	} {
		expectRead(t, l, lines, nil)
	}
	expectRead(t, l, []string{"  1   2", "  3   4"}, []int{1, 3, 2, 4})
	expectRead(t, l, []string{"  1   2", "  3"}, []int{1, 3, 2})
	expectRead(t, l, []string{"  1", "-99"}, []int{1, -99})
	expectRead(t, l, []string{"  0"}, []int{0})
	// The lines of another layout.
	expectRead(t, layoutOf(1, 2, 3), []string{"  1   2"}, []int{1, 2})
	expectRead(t, layoutOf(1, 2, 3), []string{"  1", "  2"}, nil)
	expectRead(t, layoutOf(2, 1, 7), []string{"  1   2"}, nil)
	expectRead(t, layoutOf(2, 1, 3), []string{"  1   2", "  3   4"}, nil)
	// A page of a table has at most as many entries as the table.
	most := printedPage(layoutOf(20, 3, 1), make([]int, 60), 0)
	expectRead(t, layoutOf(20, 3, 1), most, make([]int, 60))
	expectRead(t, layoutOf(20, 6, 1), most, make([]int, 60))
	for _, more := range [][]string{slices.Repeat([]string{"0 0 0 0 0 0"}, 20), slices.Repeat([]string{"0 0 0 0"}, 20), slices.Concat([]string{"0 0 0 0"}, most[1:])} {
		expectRead(t, layoutOf(20, 6, 1), more, nil)
	}
	for n, want := range map[string][]int{" 1000000000": {1000000000}, "-1000000000": {-1000000000}, " 1000000001": nil, "-1000000001": nil, "99999999999": nil, "-9999999999": nil} {
		expectRead(t, layoutOf(1, 1, 11), []string{n}, want)
		expectReadTable(t, layoutOf(1, 1, 11), n+"\n", want)
	}
}

// Texts that only look like tables in two rows and two columns of three bytes.
func TestNoReadTable(t *testing.T) {
	l := layoutOf(2, 2, 3)
	for _, text := range []string{
		"", "\n", "\n\n", "\n\n\n", " ", " \n", "   \n", "x", "x\n", "  1", "  1\n  2", "  1\n\n", "  1\n\n\n", "\n  1\n", "\n\n  1\n", " 1\n", "1\n", "   1\n", "  1 \n", "  x\n", " 01\n", " +1\n", " -0\n", "  1\r\n", "\r\n  1\n", "  1\n ", "  1\n \n", "  1\n\x00", "\xff\n", "  1\n\xff",
		"  1\n\n  5\n", "  1\n  2\n\n  5\n", "  1   3\n  2\n\n  5\n", "  1   3\n  2   4\n  5\n", "  1   3\n  2   4\n\n\n  5\n", "  1   3\n  2   4\n \n  5\n", "  1   3\n  2   4\n\n", "  1   3\n  2   4\n\n\n", "  1   3\n  2   4\n\n  5", "  1   3\n  2   4\n\n  5\n\n", "  1   3\n  2   4\n\n  5   6\n", "  1   3\n  2   4\n\n  5\n\n  6\n", "  1   3\n  2   4\r\n\r\n  5\n", "\n  1   3\n  2   4\n\n  5\n",
		"  1   3   5\n  2   4\n", "  1   3\n\n  2   4\n", "  1\n  2\n  3\n", "  1   3\n  2   4\f  5\n", "  1   3\n  2   4 \n\n  5\n", "  1   3\n  2   4\n\n  x\n", "  x   3\n  2   4\n\n  5\n", "  1   3\n  2   4\n\n 05\n", "  1   3\n  2   4\n\n  5   \n", "1000\n", "-100\n",
		strings.Repeat("\n", 1000), strings.Repeat(" ", 1000), strings.Repeat("  1\n", 1000), strings.Repeat("  1\n\n", 1000), strings.Repeat("\n\n  1", 1000), strings.Repeat("  1   1\n  1   1\n\n", 15) + "  1\n", strings.Repeat("  1   1\n  1   1\n\n", 15),
	} {
		expectReadTable(t, l, text, nil)
	}
	expectReadTable(t, l, "  1   3\n  2   4\n\n  5   7\n  6\n", []int{1, 2, 3, 4, 5, 6, 7})
	expectReadTable(t, l, strings.Repeat("  1   1\n  1   1\n\n", 14)+"  1   1\n  1   1\n", slices.Repeat([]int{1}, 60))
	one := layoutOf(1, 1, 1)
	expectReadTable(t, one, strings.Repeat("7\n\n", 59)+"7\n", slices.Repeat([]int{7}, 60))
	expectReadTable(t, one, strings.Repeat("7\n\n", 60)+"7\n", nil)
	expectReadTable(t, one, strings.Repeat("7\n\n", 1000)+"7\n", nil)
	expectReadTable(t, one, "7\n\n8\n", []int{7, 8})
	expectReadTable(t, one, "7\n8\n", nil)
	expectReadTable(t, layoutOf(20, 6, 1), strings.Repeat("0 0 0\n", 20), make([]int, 60))
	expectReadTable(t, layoutOf(20, 6, 1), "0 0 0 0\n"+strings.Repeat("0 0 0\n", 19), nil)
}

func TestNoReading(t *testing.T) {
	for _, l := range notLayouts() {
		for _, lines := range [][]string{nil, {""}, {"1"}, {"1 2"}, {"  1"}, {"  1   2", "  3"}, {"           0"}, {strings.Repeat(" ", 12) + "0"}, {strings.Repeat("1", 100)}} {
			expectRead(t, l, lines, nil)
			expectReadTable(t, l, strings.Join(lines, "\n")+"\n", nil)
			expectReadTable(t, l, strings.Join(lines, "\n"), nil)
		}
	}
}

// A byte that is put in, left out or changed makes of the text of a table that
// of another table, or of none; what is read is always printed as the text.
func TestChangedTables(t *testing.T) {
	read := 0
	for _, c := range []struct {
		l      impl.Layout
		values []int
	}{{layoutOf(2, 2, 3), []int{1, 20, -3, 4, 5}}, {layoutOf(1, 1, 1), []int{7, 0, 9}}, {layoutOf(3, 2, 2), []int{-1, 10, 99, 0, 7}}, {layoutOf(1, 3, 4), []int{1000, -999, 5, 60}}} {
		text, _ := printedTable(c.l, c.values)
		for i := range len(text) + 1 {
			for _, put := range []string{"", " ", "0", "1", "9", "-", "+", "\n", "\n\n", "\r", "x", "\x00", "_", "."} {
				for left := range min(3, len(text)-i) + 1 {
					changed := text[:i] + put + text[i+left:]
					want := numbersIn(c.l, changed)
					if again, ok := printedTable(c.l, want); !ok || again != changed {
						want = nil
					}
					expectReadTable(t, c.l, changed, want)
					if want != nil {
						read++
					}
				}
			}
		}
	}
	if read < 100 {
		t.Errorf("only %d texts were those of tables", read)
	}
}

// numbersIn returns the fields of a text that are numbers in the order in which
// a layout has them, if the text is that of a table.
func numbersIn(l impl.Layout, text string) []int {
	values := []int{}
	for _, page := range strings.Split(text, "\n\n") {
		rows := [][]string{}
		for _, line := range strings.Split(page, "\n") {
			rows = append(rows, strings.Fields(line))
		}
		for column := range l.Across {
			for _, row := range rows {
				if column < len(row) {
					n, _ := strconv.Atoi(row[column])
					values = append(values, n)
				}
			}
		}
	}
	return values
}
