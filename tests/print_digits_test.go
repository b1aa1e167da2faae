package tests

import (
	"fmt"
	"slices"
	"strconv"
	"strings"
	"testing"

	"loop.example/differenceengine/impl"
)

func expectGrouped(t *testing.T, n int, want string) {
	t.Helper()
	expectText(t, fmt.Sprintf("GroupDigits(%d)", n), impl.GroupDigits(n), true, want, true)
	if want == "" {
		return
	}
	got, ok := impl.ParseGrouped(want)
	if got != n || !ok {
		t.Errorf("ParseGrouped(%q) = %d, %v; want %d, true", want, got, ok, n)
	}
}

// numbersToGroup are numbers with all numbers of digits.
func numbersToGroup() []int {
	numbers := numbersToRound()
	for digits := range 10 {
		for _, n := range []int{tens(digits), tens(digits) - 1, tens(digits) + 1, 2 * tens(digits), 123456789 % tens(digits)} {
			numbers = append(numbers, min(n, 1000000000), max(-n, -1000000000))
		}
	}
	return numbers
}

func TestGroupDigits(t *testing.T) {
	for _, n := range numbersToGroup() {
		expectGrouped(t, n, grouped(n))
	}
	for n := -1100; n <= 1100; n++ {
		expectGrouped(t, n, grouped(n))
	}
	for _, n := range beyondEntries {
		expectGrouped(t, n, "")
	}
}

func TestKnownGroups(t *testing.T) {
	for n, want := range map[int]string{
		0: "0", 7: "7", -7: "-7", 12: "12", 100: "100", 999: "999", -100: "-100", -999: "-999", 1000: "1 000", -1000: "-1 000", 1001: "1 001", 12345: "12 345", -12345: "-12 345", 123456: "123 456", -123456: "-123 456",
		1000000: "1 000 000", -1234567: "-1 234 567", 100000000: "100 000 000", -999999999: "-999 999 999", 1000000000: "1 000 000 000", -1000000000: "-1 000 000 000", 1000000001: "", -1000000001: "",
	} {
		expectGrouped(t, n, want)
	}
}

func expectNotGrouped(t *testing.T, text string) {
	t.Helper()
	if n, ok := impl.ParseGrouped(text); n != 0 || ok {
		t.Errorf("ParseGrouped(%q) = %d, %v; want 0, false", text, n, ok)
	}
}

func TestNoGroups(t *testing.T) {
	for _, text := range []string{
		"", " ", "  ", "-", "- ", " -", "--", "-0", "00", "01", "-01", "000", "0 000", "0 001", "00 1", "+0", "+1", "+1 000", "x", "1x", "x1", "1 00x", "1.0", "1e3", "0x1", "1_000", "1,000", "1'000", "1.000",
		"1000", "-1000", "1 00", "1 0", "1 0000", "10 00", "100 0", "1  000", "1 000 ", " 1 000", " 1", "1 ", "- 1", "- 1 000", "-1000", "- 999", "-1 00", "1 000 00", "1000 000", "1 000000", "1 -000", "1 00-", "12 34", "1 234 56", "1 2345", "1234 567", "0 123", "-0 123", "012 345",
		"1\t000", "1\n000", "1 000\n", "\n1", "1\u00a0000", "1\x00000", "\x00", "\xff", "1\xff", "\u0661", "1 \u0660\u0660\u0660", "\uff11", "1\v000",
		"1 000 000 001", "-1 000 000 001", "1000000001", "2 000 000 000", "10 000 000 000", "9 223 372 036 854 775 807", "9 223 372 036 854 775 808", "-9 223 372 036 854 775 808", "18 446 744 073 709 551 616", "18 446 744 073 709 551 617", "9223372036854775807", "18446744073709551617",
		strings.Repeat("9", 1000), strings.Repeat(" ", 1000), "1" + strings.Repeat(" 000", 300), strings.Repeat(" ", 1000) + "1",
	} {
		expectNotGrouped(t, text)
	}
	for _, n := range beyondEntries {
		expectNotGrouped(t, strconv.Itoa(n))
		if n != minInt {
			expectNotGrouped(t, grouped(n))
		}
	}
}

// A byte that is put in, left out or changed makes of a text that of another
// number, or of none.
func TestChangedGroups(t *testing.T) {
	for _, n := range []int{0, -7, 999, -1000, 12345, -1234567, 100200300, 1000000000, -1000000000} {
		text := grouped(n)
		for i := range len(text) + 1 {
			for _, c := range []string{"", "0", "1", "9", "-", "+", " ", "  ", ",", "\x00", "000", " 000"} {
				for left := range min(3, len(text)-i) + 1 {
					changed := text[:i] + c + text[i+left:]
					number, err := strconv.Atoi(strings.ReplaceAll(changed, " ", ""))
					if err == nil && farFrom(number, 0) <= 1000000000 && grouped(number) == changed {
						expectGrouped(t, number, changed)
					} else {
						expectNotGrouped(t, changed)
					}
				}
			}
		}
	}
}

func expectShortened(t *testing.T, list, want []string) {
	t.Helper()
	expectLines(t, fmt.Sprintf("ShortenColumn(%q)", list), impl.ShortenColumn(list), true, want, true)
}

func expectRestored(t *testing.T, list, want []string) {
	t.Helper()
	expectLines(t, fmt.Sprintf("RestoreColumn(%q)", list), impl.RestoreColumn(list), true, want, true)
}

// someColumns are lists of columns of the same width: none, one, equal ones,
// ones that agree in some digits, or in others than the first.
func someColumns() [][]string {
	lists := [][]string{nil, {}, {"7"}, {"120", "125", "125", "130"}, {"19", "29"}, {"1000", "2000"}}
	throw := dice(13)
	for width := 1; width <= 12; width++ {
		equal := slices.Repeat([]string{showing(123456789012, width)}, 5)
		lists = append(lists, equal)
		for _, length := range []int{1, 2, 3, 9, 59, 60} {
			ascending, mixed := []string{}, []string{}
			digit := throw(0, 9)
			for i := range length {
				ascending = append(ascending, showing(997*i*i+7, width))
				digit = (digit + throw(0, 1)) % 10
				mixed = append(mixed, showing(digit*tens(throw(0, width-1)), width))
			}
			lists = append(lists, ascending, mixed)
		}
	}
	return lists
}

func TestShortenColumn(t *testing.T) {
	for _, list := range someColumns() {
		expectShortened(t, list, shortened(list))
	}
	for _, words := range [][]string{{"0", "1", "2"}, {"00", "01", "10", "11"}, {"000", "001", "010", "100", "111", "011"}} {
		for _, list := range allLists(words, 3) {
			expectShortened(t, list, shortened(list))
		}
	}
}

func TestKnownShortened(t *testing.T) {
	for _, c := range []struct{ list, want []string }{
		{[]string{"120", "125", "125", "130"}, []string{"120", "  5", "  5", " 30"}}, {[]string{"7"}, []string{"7"}}, {[]string{"7", "7", "8"}, []string{"7", "7", "8"}}, {[]string{"00", "00"}, []string{"00", " 0"}},
		// What agrees behind a difference is printed, and so is the first string.
		{[]string{"121", "131"}, []string{"121", " 31"}}, {[]string{"121", "221"}, []string{"121", "221"}}, {[]string{"000000000000", "000000000000", "000000000001", "100000000001"}, []string{"000000000000", "           0", "           1", "100000000001"}},
		// Each one is compared with the one before it, not with the first one.
		{[]string{"10", "20", "21", "11"}, []string{"10", "20", " 1", "11"}}, {[]string{"100", "100", "110"}, []string{"100", "  0", " 10"}},
	} {
		expectShortened(t, c.list, c.want)
		expectRestored(t, c.want, c.list)
	}
}

// notColumnLists are lists that are not columns of the same width, because of
// one in each place, or because there are too many.
func notColumnLists() [][]string {
	lists := [][]string{slices.Repeat([]string{"12"}, 61), slices.Repeat([]string{"1"}, 62), slices.Repeat([]string{"123456789012"}, 1000), slices.Repeat([]string{"1234567890123"}, 3), {"", ""}}
	for _, length := range []int{1, 2, 3, 60} {
		for _, at := range []int{0, 1, 2, 59} {
			for _, c := range slices.Concat(notColumns, []string{"  ", " 2", "2 ", "123", "1"}) {
				list := slices.Repeat([]string{"12"}, length)
				if at < length && (length > 1 || c != "123" && c != "1") {
					list[at] = c
					lists = append(lists, list)
				}
			}
		}
	}
	return lists
}

func TestNoShortened(t *testing.T) {
	for _, list := range notColumnLists() {
		expectShortened(t, list, nil)
	}
}

// Promise 6: what is shortened is restored.
func TestRestoreColumn(t *testing.T) {
	for _, list := range someColumns() {
		expectRestored(t, shortened(list), list)
		expectRestored(t, impl.ShortenColumn(list), list)
	}
}

// All short lists are looked up among all that are shortened ones.
func TestRestoreAllColumns(t *testing.T) {
	for width, length := range map[int]int{1: 4, 2: 3, 3: 2} {
		columns := []string{}
		for _, word := range allWords("01", width) {
			if len(word) == width {
				columns = append(columns, word)
			}
		}
		wanted := map[string][]string{}
		for _, list := range allLists(columns, length) {
			wanted[fmt.Sprintf("%q", shortened(list))] = list
		}
		for _, list := range allLists(allWords(" 01", width), length) {
			// A list that begins with a shorter column is looked up with that width.
			if len(list) > 0 && len(list[0]) == width {
				expectRestored(t, list, wanted[fmt.Sprintf("%q", list)])
			}
		}
	}
}

func TestNoRestored(t *testing.T) {
	for _, list := range [][]string{
		{""}, {" "}, {" 1"}, {"1 "}, {"  "}, {"1", " "}, {"1", ""}, {"", "1"}, {"1", "11"}, {"12", "1"}, {"12", "123"}, {"12", "   "}, {"12", "  "}, {"12", "1 "}, {"12", "   3"}, {"12", "12"}, {"12", "13"}, {"12", " 3", "13"}, {"12", " 3", " 3", "14"}, {"12", "  3"}, {"12", "\t3"}, {"12", "\u00a03"}, {"12", "\x003"},
		{"123", "1 4"}, {"123", " 23"}, {"123", "  3", " 23"}, {"123", " 2 "}, {"123", "-23"}, {"123", " x3"}, {"x23", "  3"}, {" 23", "  3"}, {"123", "   "}, {"123", "    "}, {"123", "  34"}, {"123", "  \xff"},
		{"1", strings.Repeat(" ", 1000)}, {"1", strings.Repeat(" ", 1000) + "1"}, {strings.Repeat("1", 1000), strings.Repeat(" ", 999) + "1"}, {"1234567890123", "            4"}, {strings.Repeat("9", 12), strings.Repeat(" ", 12)},
	} {
		expectRestored(t, list, nil)
	}
	for _, length := range []int{2, 3, 60} {
		for _, at := range []int{0, 1, 2, 59} {
			for _, c := range slices.Concat(notColumns, []string{"12", "13", "  ", "3 ", "123", "1"}) {
				list := slices.Concat([]string{"12"}, slices.Repeat([]string{" 2"}, length-1))
				if at < length && c != " 1" && (at > 0 || c != "12" && c != "13") {
					list[at] = c
					expectRestored(t, list, nil)
				}
			}
		}
	}
	for _, list := range notColumnLists()[:5] {
		expectRestored(t, list, nil)
	}
	// The longest list, and one that is longer.
	most := slices.Concat([]string{"123"}, slices.Repeat([]string{"  3"}, 59))
	expectRestored(t, most, slices.Repeat([]string{"123"}, 60))
	expectRestored(t, append(most, "  3"), nil)
	expectRestored(t, slices.Concat(most, most[1:]), nil)
	expectRestored(t, nil, nil)
}
