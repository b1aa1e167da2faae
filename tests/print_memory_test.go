package tests

import (
	"fmt"
	"slices"
	"strings"
	"testing"
	"testing/synctest"

	"loop.example/differenceengine/impl"
)

// guardedLines returns a copy of lines, and the memory that they are in, which
// has sentinels past their number.
func guardedLines(lines []string) ([]string, []string) {
	memory := slices.Concat(lines, slices.Repeat([]string{"sentinel"}, 8))
	return memory[:len(lines)], memory
}

// A printProbe is a call of a function of the chapter with numbers and lines; it
// returns the numbers and the lines of the result.
type printProbe struct {
	name string
	call func(values []int, lines []string) ([]int, []string)
}

func onlyNumbers(list []int, _ bool) ([]int, []string) { return list, nil }

func onlyLines(lines []string, _ bool) ([]int, []string) { return nil, lines }

func onlyText(text string, _ bool) ([]int, []string) { return nil, []string{text} }

// printProbes has all functions of the chapter to which tables or lines are
// passed, with numbers for which a result could be the argument itself, and
// others.
func printProbes() []printProbe {
	probes := []printProbe{
		{"ShortenColumn", func(_ []int, lines []string) ([]int, []string) { return onlyLines(impl.ShortenColumn(lines), true) }},
		{"RestoreColumn", func(_ []int, lines []string) ([]int, []string) { return onlyLines(impl.RestoreColumn(lines), true) }},
		{"LinesValid", func(_ []int, lines []string) ([]int, []string) { impl.LinesValid(lines); return nil, nil }},
		{"StereotypeOf", func(_ []int, lines []string) ([]int, []string) { return onlyLines(impl.StereotypeOf(lines), true) }},
		{"ReadStereotype", func(_ []int, lines []string) ([]int, []string) { return onlyLines(impl.ReadStereotype(lines)) }},
	}
	for _, digits := range []int{-1, 0, 1, 6, 7} {
		for way := -1; way <= 3; way++ {
			probes = append(probes, printProbe{fmt.Sprintf("RoundTable, %d, %d", digits, way), func(values []int, _ []string) ([]int, []string) {
				return onlyNumbers(impl.RoundTable(values, digits, way))
			}}, printProbe{fmt.Sprintf("RoundError, %d, %d", digits, way), func(values []int, _ []string) ([]int, []string) {
				return []int{impl.RoundError(values, digits, way)}, nil
			}})
		}
	}
	for _, l := range memoryLayouts() {
		probes = append(probes, printProbe{fmt.Sprintf("PrintTable in %v", l), func(values []int, _ []string) ([]int, []string) {
			return onlyText(impl.PrintTable(l, values))
		}}, printProbe{fmt.Sprintf("ReadTable in %v", l), func(values []int, _ []string) ([]int, []string) {
			text, _ := impl.PrintTable(l, values)
			return onlyNumbers(impl.ReadTable(l, text))
		}}, printProbe{fmt.Sprintf("ReadPage in %v", l), func(_ []int, lines []string) ([]int, []string) {
			return onlyNumbers(impl.ReadPage(l, lines))
		}})
		for page := -1; page <= 2; page++ {
			probes = append(probes, printProbe{fmt.Sprintf("PageLines in %v, %d", l, page), func(values []int, _ []string) ([]int, []string) {
				return onlyLines(impl.PageLines(l, values, page))
			}}, printProbe{fmt.Sprintf("PageSums in %v, %d", l, page), func(values []int, _ []string) ([]int, []string) {
				return impl.PageSums(l, values, page), nil
			}})
		}
	}
	return probes
}

// memoryLayouts are layouts: for one entry in a page, in which sums are the
// entries themselves, for several and for many; and one that is not valid.
func memoryLayouts() []impl.Layout {
	return []impl.Layout{layoutOf(1, 1, 1), layoutOf(1, 6, 1), layoutOf(2, 2, 3), layoutOf(1, 3, 4), layoutOf(20, 6, 12), layoutOf(0, 1, 1)}
}

// memoryLines are columns, shortened ones, pages, plates and lines that are
// none of these.
func memoryLines() [][]string {
	lists := [][]string{nil, {}, {""}, {"7"}, {"7", "8"}, {"7", "7"}, {"120", "125", "125", "130"}, {"120", "  5", "  5", " 30"}, {"120", "13"}, {"  1  -3", " 20   4"}, {"  5"}, {"ab", "c", ""}, {"ba", " c", "  "}, {"aba", "cdc"}, {"a "}, {" "}, {"\t"}, {"1", "22"}, {"1 2 3 4 5 6"}, {"           0"}}
	for _, c := range []string{"1", "12", "abc"} {
		for _, count := range []int{20, 40, 41, 60, 61} {
			lists = append(lists, slices.Repeat([]string{c}, count))
		}
	}
	return lists
}

// eachPrint calls see for all functions with tables and lines, of which each one
// is passed only to functions that take it.
func eachPrint(see func(probe printProbe, values []int, lines []string)) {
	lists := memoryLines()
	tables := append(memoryLists(), []int{1, 20, -3, 4, 5}, []int{15, 25, -35, 123456789})
	for _, probe := range printProbes() {
		for i := range max(len(lists), len(tables)) {
			see(probe, tables[i%len(tables)], lists[i%len(lists)])
		}
	}
}

func TestPrintedStays(t *testing.T) {
	eachPrint(func(probe printProbe, values []int, lines []string) {
		table, tableMemory := guarded(values)
		list, listMemory := guardedLines(lines)
		tableBefore, listBefore := slices.Clone(tableMemory), slices.Clone(listMemory)
		numbers, made := probe.call(table, list)
		if !slices.Equal(tableMemory, tableBefore) || !slices.Equal(listMemory, listBefore) {
			t.Fatalf("%s of %v or %q changes its argument or memory beyond it", probe.name, values, lines)
		}
		scribble(numbers, 999)
		scribbleText(made, "scribble")
		if !slices.Equal(tableMemory, tableBefore) || !slices.Equal(listMemory, listBefore) {
			t.Fatalf("a result of %s of %v or %q shares memory with the argument", probe.name, values, lines)
		}
	})
}

func TestPrintedIsNew(t *testing.T) {
	eachPrint(func(probe printProbe, values []int, lines []string) {
		numbers, made := probe.call(values, lines)
		before := fmt.Sprintf("%v %q", numbers, made)
		otherNumbers, otherMade := probe.call(values, lines)
		scribble(otherNumbers, 999)
		scribbleText(otherMade, "scribble")
		thirdNumbers, thirdMade := probe.call(values, lines)
		if fmt.Sprintf("%v %q", numbers, made) != before || fmt.Sprintf("%v %q", thirdNumbers, thirdMade) != before {
			t.Fatalf("results of %s of %v or %q share memory, or state is kept", probe.name, values, lines)
		}
	})
}

// allPrinted returns the results of all functions of the chapter, those for
// single numbers included.
func allPrinted() string {
	var text strings.Builder
	eachPrint(func(probe printProbe, values []int, lines []string) {
		numbers, made := probe.call(values, lines)
		fmt.Fprintf(&text, "%s %v %q\n", probe.name, numbers, made)
	})
	for _, n := range []int{0, -5, 15, 125, -1234567, 1000000000, 1000000001} {
		for way := range 4 {
			whole, ok := impl.RoundEntry(n, 1, way)
			fmt.Fprintln(&text, whole, ok, impl.GroupDigits(n))
		}
		number, ok := impl.ParseGrouped(grouped(n))
		fmt.Fprintln(&text, number, ok)
	}
	for _, l := range memoryLayouts() {
		for n := range 62 {
			page, row, column, ok := impl.PlaceOf(l, n)
			fmt.Fprintln(&text, page, row, column, ok, impl.PagesNeeded(l, n), impl.IndexOfPlace(l, page, row, column), impl.LayoutValid(l))
		}
	}
	return text.String()
}

func TestSchedulingIsNotSeenInPrinting(t *testing.T) {
	expectSameWhenScheduled(t, 8, allPrinted)
}

// A goroutine that waits for ever after a call would be a deadlock here.
func TestNoGoroutineStaysAfterPrinting(t *testing.T) {
	synctest.Test(t, func(t *testing.T) { allPrinted() })
}
