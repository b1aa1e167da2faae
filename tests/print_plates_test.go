package tests

import (
	"fmt"
	"slices"
	"strings"
	"testing"

	"loop.example/differenceengine/impl"
)

// canBePrinted reports what the document says of lines.
func canBePrinted(lines []string) bool {
	for _, line := range lines {
		for i, c := range []byte(line) {
			if c < 32 || c > 126 || c == 32 && i == len(line)-1 {
				return false
			}
		}
		if len(line) > 100 {
			return false
		}
	}
	return len(lines) <= 40
}

// plateOf returns the plate of lines that can be printed: the byte at a place
// stands as far from the right end as it does from the left one in its line.
func plateOf(lines []string) []string {
	longest := 0
	for _, line := range lines {
		longest = max(longest, len(line))
	}
	plate := []string{}
	for _, line := range lines {
		shown := []byte(strings.Repeat(" ", longest))
		for i := range len(line) {
			shown[longest-1-i] = line[i]
		}
		plate = append(plate, string(shown))
	}
	return plate
}

// printableLines are lines that can be printed: none, empty ones, and ones at
// the bounds.
func printableLines() [][]string {
	all := ""
	for c := byte(32); c <= 126; c++ {
		all += string([]byte{c})
	}
	lists := [][]string{nil, {}, {""}, {"", ""}, {"ab", "c", ""}, {"", "ab"}, {" a"}, {"  a", "b c"}, {"a  b", "", "  c"}, {"~", "!"}, {all}, {all, "x"}, {strings.Repeat("x", 100)}, {strings.Repeat(" ", 99) + "x", "", "y"}, slices.Repeat([]string{""}, 40), slices.Repeat([]string{strings.Repeat("=", 100)}, 40)}
	for _, l := range someLayouts() {
		if l.Wide*l.Across < 90 {
			for _, values := range tablesFor(l) {
				lists = append(lists, printedPage(l, values, 0))
			}
		}
	}
	throw := dice(14)
	for _, count := range []int{1, 2, 3, 39, 40} {
		lines := make([]string, count)
		for i := range lines {
			for range throw(0, 12) {
				lines[i] += string([]byte{byte(throw(32, 126))})
			}
			lines[i] = strings.TrimRight(lines[i], " ")
		}
		lists = append(lists, lines)
	}
	return lists
}

// unprintableLines are lines that cannot be printed, because of one byte in one
// line, or because they are too many or too long.
func unprintableLines() [][]string {
	lists := [][]string{{" "}, {"a "}, {"a", "b "}, {"a ", "b"}, {"  "}, {"", " "}, {strings.Repeat(" ", 100)}, {strings.Repeat("x", 101)}, {"a", strings.Repeat("x", 101)}, {strings.Repeat(" ", 100) + "x"}, {strings.Repeat("x", 1000)}, {strings.Repeat("x", 99) + " "}, slices.Repeat([]string{""}, 41), slices.Repeat([]string{"a"}, 41), slices.Repeat([]string{"a"}, 1000), {"\u00e9"}, {"\u4e16"}, {"a\nb"}, {"a\n"}, {"\r"}}
	for c := range 256 {
		if c < 32 || c > 126 {
			for _, format := range []string{"%s", "a%s", "%sa", "a%sb"} {
				line := fmt.Sprintf(format, string([]byte{byte(c)}))
				lists = append(lists, []string{line}, []string{"abcd", line}, []string{line, "x"})
			}
		}
	}
	return lists
}

func expectPlate(t *testing.T, lines, want []string) {
	t.Helper()
	expectLines(t, fmt.Sprintf("StereotypeOf(%q)", lines), impl.StereotypeOf(lines), true, want, true)
}

func expectReadPlate(t *testing.T, plate, want []string, wantOK bool) {
	t.Helper()
	got, ok := impl.ReadStereotype(plate)
	expectLines(t, fmt.Sprintf("ReadStereotype(%q)", plate), got, ok, want, wantOK)
}

func TestLinesValid(t *testing.T) {
	for _, lines := range printableLines() {
		if !impl.LinesValid(lines) || !canBePrinted(lines) {
			t.Errorf("LinesValid(%q) = false", lines)
		}
	}
	for _, lines := range unprintableLines() {
		if impl.LinesValid(lines) || canBePrinted(lines) {
			t.Errorf("LinesValid(%q) = true", lines)
		}
	}
	for c := range 256 {
		for _, line := range []string{string([]byte{byte(c)}), string([]byte{'a', byte(c)}), string([]byte{byte(c), 'a'})} {
			lines := []string{"", line}
			if got := impl.LinesValid(lines); got != canBePrinted(lines) {
				t.Errorf("LinesValid(%q) = %v", lines, got)
			}
		}
	}
	for _, lines := range allLists(allWords("a \x1f", 2), 2) {
		if got := impl.LinesValid(lines); got != canBePrinted(lines) {
			t.Errorf("LinesValid(%q) = %v", lines, got)
		}
	}
}

func TestLongLines(t *testing.T) {
	for _, c := range []struct {
		count, length int
		want          bool
	}{{40, 100, true}, {39, 99, true}, {41, 100, false}, {41, 0, false}, {40, 101, false}, {1, 101, false}, {0, 0, true}, {1, 100, true}, {40, 0, true}} {
		lines := slices.Repeat([]string{strings.Repeat("m", c.length)}, c.count)
		if got := impl.LinesValid(lines); got != c.want {
			t.Errorf("LinesValid of %d lines of %d bytes = %v", c.count, c.length, got)
		}
		plate := impl.StereotypeOf(lines)
		if !c.want {
			lines = nil
		}
		expectNumber(t, fmt.Sprintf("the length of the plate of %d lines of %d bytes", c.count, c.length), len(plate), len(lines))
	}
}

// Promise 6: what is shown on a plate is read back.
func TestPlates(t *testing.T) {
	for _, lines := range printableLines() {
		expectPlate(t, lines, plateOf(lines))
		expectReadPlate(t, plateOf(lines), lines, true)
		expectReadPlate(t, impl.StereotypeOf(lines), lines, true)
	}
	for _, lines := range unprintableLines() {
		expectPlate(t, lines, nil)
		expectReadPlate(t, plateOf(lines), nil, false)
	}
}

func TestKnownPlates(t *testing.T) {
	for _, c := range []struct{ lines, plate []string }{
		{[]string{"ab", "c", ""}, []string{"ba", " c", "  "}}, {[]string{"  1  -3", " 20   4"}, []string{"3-  1  ", "4   02 "}}, {[]string{"", ""}, []string{"", ""}}, {nil, nil}, {[]string{" a", "b"}, []string{"a ", " b"}}, {[]string{"a b", ""}, []string{"b a", "   "}}, {[]string{"", "", "xyz"}, []string{"   ", "   ", "zyx"}},
	} {
		expectPlate(t, c.lines, c.plate)
		expectReadPlate(t, c.plate, c.lines, true)
	}
}

// All small plates are looked up among those of lines.
func TestReadAllPlates(t *testing.T) {
	wanted := map[string][]string{}
	for _, lines := range allLists(allWords("ab ", 2), 3) {
		if canBePrinted(lines) {
			wanted[fmt.Sprintf("%q", plateOf(lines))] = lines
		}
	}
	for _, letters := range []string{"ab ", "a\x7f"} {
		for _, plate := range allLists(allWords(letters, 2), 3) {
			lines, ok := wanted[fmt.Sprintf("%q", plate)]
			expectReadPlate(t, plate, lines, ok)
		}
	}
}

func TestNoReadPlates(t *testing.T) {
	for _, plate := range [][]string{
		{" "}, {"  ", "  "}, {"a", "bc"}, {"ab", "c"}, {"ab", " c "}, {"ab", ""}, {"", "a"}, {" a"}, {" a", " b"}, {" a", "  "}, {"\t"}, {"\n"}, {"a\n"}, {"a\x00"}, {"\xff"}, {"a", "\xff"}, {"\u00e9"}, {"\u4e16", "abc"}, {"a\x7f"}, {"\x1fa"},
		{strings.Repeat("x", 101)}, {strings.Repeat("x", 101), strings.Repeat(" ", 101)}, {strings.Repeat(" ", 100) + "x"}, {"x" + strings.Repeat(" ", 100)}, {strings.Repeat(" ", 1000)}, slices.Repeat([]string{"x"}, 41), slices.Repeat([]string{""}, 41), slices.Repeat([]string{"x"}, 1000),
	} {
		expectReadPlate(t, plate, nil, false)
	}
	expectReadPlate(t, slices.Repeat([]string{"x"}, 40), slices.Repeat([]string{"x"}, 40), true)
	expectReadPlate(t, []string{"x" + strings.Repeat(" ", 99)}, []string{strings.Repeat(" ", 99) + "x"}, true)
	expectReadPlate(t, nil, nil, true)
	expectReadPlate(t, []string{}, nil, true)
}
