package tests

import (
	"fmt"
	"slices"
	"testing"

	"loop.example/differenceengine/impl"
)

const sentinel = -424242

// guarded returns a copy of a list, and the memory that it is in, which has
// sentinels past the list's length.
func guarded(list []int) ([]int, []int) {
	memory := slices.Concat(list, []int{sentinel, sentinel, sentinel, sentinel, sentinel, sentinel, sentinel, sentinel})
	return memory[:len(list)], memory
}

// A listCall is a call of a function of the chapter with up to two lists; it
// returns all lists of the result.
type listCall struct {
	name string
	call func(p, q []int) [][]int
}

func one(list []int, _ bool) [][]int { return [][]int{list} }

// listCalls has all functions of the chapter to which lists are passed, with
// numbers for which a result could be the argument itself, and others.
func listCalls() []listCall {
	calls := []listCall{
		{"PolyValid", func(p, q []int) [][]int { impl.PolyValid(p); return nil }},
		{"FormatPoly", func(p, q []int) [][]int { impl.FormatPoly(p); return nil }},
		{"DegreeOf", func(p, q []int) [][]int { impl.DegreeOf(p); return nil }},
		{"TableValid", func(p, q []int) [][]int { impl.TableValid(p); return nil }},
		{"LeastDegree", func(p, q []int) [][]int { impl.LeastDegree(p); return nil }},
		{"TrimPoly", func(p, q []int) [][]int { return one(impl.TrimPoly(p), true) }},
		{"DifferencePoly", func(p, q []int) [][]int { return one(impl.DifferencePoly(p), true) }},
		{"TurnPoly", func(p, q []int) [][]int { return one(impl.TurnPoly(p)) }},
		{"FromPowers", func(p, q []int) [][]int { return one(impl.FromPowers(p)) }},
		{"PowersOf", func(p, q []int) [][]int { return one(impl.PowersOf(p), true) }},
		{"AddPolys", func(p, q []int) [][]int { return one(impl.AddPolys(p, q)) }},
		{"MulPolys", func(p, q []int) [][]int { return one(impl.MulPolys(p, q)) }},
		{"AddPolys of itself", func(p, q []int) [][]int { return one(impl.AddPolys(p, p)) }},
		{"MulPolys of itself", func(p, q []int) [][]int { return one(impl.MulPolys(p, p)) }},
		{"DiffTable", func(p, q []int) [][]int { return impl.DiffTable(p) }},
		{"DiffsOf", func(p, q []int) [][]int { return one(impl.DiffsOf(p), true) }},
		{"Interpolate", func(p, q []int) [][]int { return one(impl.Interpolate(p)) }},
	}
	for _, n := range []int{-1, 0, 1, 2, 5, 10, 201} {
		calls = append(calls,
			listCall{fmt.Sprintf("EvalPoly at %d", n), func(p, q []int) [][]int { impl.EvalPoly(p, n); return nil }},
			listCall{fmt.Sprintf("ValuesOf from %d", n), func(p, q []int) [][]int { return one(impl.ValuesOf(p, n, len(p))) }},
			listCall{fmt.Sprintf("ValuesOf, %d of them", n), func(p, q []int) [][]int { return one(impl.ValuesOf(p, 0, n)) }},
			listCall{fmt.Sprintf("ShiftPoly by %d", n), func(p, q []int) [][]int { return one(impl.ShiftPoly(p, n)) }},
			listCall{fmt.Sprintf("SumPoly with %d", n), func(p, q []int) [][]int { return one(impl.SumPoly(p, n)) }},
			listCall{fmt.Sprintf("ScalePoly by %d", n), func(p, q []int) [][]int { return one(impl.ScalePoly(p, n)) }},
			listCall{fmt.Sprintf("StepPoly by %d", n), func(p, q []int) [][]int { return one(impl.StepPoly(p, n)) }},
		)
	}
	return calls
}

// memoryLists are polynomials, tables and lists that are neither.
func memoryLists() [][]int {
	lists := [][]int{nil, {}, {0}, {5}, {0, 0}, {5, 0}, {0, 1, 2}, {3, 0, 0}, {1, 2, 3, 4, 5, 6}, {1, 2, 3, 4, 5, 6, 7}, {1, 0, 0, 0, 0, 0, 0}, {0, 0, 0, 0, 0, 0, 0, 0}, {100001}, {4, -100001, 3}, {1000000001, 2}}
	for _, length := range []int{9, 30, 31, 60, 61} {
		ramp := make([]int, length)
		for i := range length {
			ramp[i] = i * i
		}
		lists = append(lists, ramp)
	}
	return lists
}

// scribble writes over a result, its unused capacity included.
func scribble(list []int, number int) {
	list = list[:cap(list)]
	for i := range list {
		list[i] = number
	}
}

func TestArgumentsStay(t *testing.T) {
	for _, c := range listCalls() {
		for _, p := range memoryLists() {
			for _, q := range [][]int{{0}, {1}, {0, 1}, {0, 0, 0, 0, 0, 0, 0}, {2, 0, 4}, {100001}} {
				first, firstMemory := guarded(p)
				second, secondMemory := guarded(q)
				firstBefore, secondBefore := slices.Clone(firstMemory), slices.Clone(secondMemory)
				lists := c.call(first, second)
				if !slices.Equal(firstMemory, firstBefore) || !slices.Equal(secondMemory, secondBefore) {
					t.Fatalf("%s of %v and %v changes its arguments or memory beyond them", c.name, p, q)
				}
				for _, list := range lists {
					scribble(list, 999)
				}
				if !slices.Equal(firstMemory, firstBefore) || !slices.Equal(secondMemory, secondBefore) {
					t.Fatalf("a result of %s of %v and %v shares memory with an argument", c.name, p, q)
				}
			}
		}
	}
}

func TestResultsAreNew(t *testing.T) {
	for _, c := range listCalls() {
		for _, p := range memoryLists() {
			for _, q := range [][]int{{0}, {1}, {2, 0, 4}} {
				before := fmt.Sprint(c.call(p, q))
				lists := c.call(p, q)
				again := c.call(p, q)
				for _, list := range again {
					scribble(list, 999)
				}
				if fmt.Sprint(lists) != before || fmt.Sprint(c.call(p, q)) != before {
					t.Fatalf("results of %s of %v and %v share memory, or state is kept", c.name, p, q)
				}
			}
		}
	}
}

func TestParsedPolysAreNew(t *testing.T) {
	for _, text := range []string{"0", "0 1 2", "1 2 3 4 5 6 7"} {
		first, _ := impl.ParsePoly(text)
		again, _ := impl.ParsePoly(text)
		scribble(again, 999)
		third, ok := impl.ParsePoly(text)
		if impl.FormatPoly(first) != text || impl.FormatPoly(third) != text || !ok {
			t.Errorf("results of ParsePoly(%q) share memory: %v, %v", text, first, third)
		}
	}
}

// No row of a table of differences reaches into another one.
func TestRowsAreSeparate(t *testing.T) {
	for _, values := range memoryLists() {
		rows := impl.DiffTable(values)
		for i := range rows {
			scribble(rows[i], -1-i)
		}
		for i, row := range rows {
			for _, n := range row[:cap(row)] {
				if n != -1-i {
					t.Fatalf("the row %d of DiffTable(%v) shares memory with the row %d", i, values, -1-n)
				}
			}
		}
	}
}
