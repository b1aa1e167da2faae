package tests

import (
	"fmt"
	"runtime"
	"slices"
	"sync"
	"testing"
	"testing/synctest"

	"loop.example/differenceengine/impl"
)

// errorCalls has all functions of the chapter to which lists of numbers are
// passed, with numbers for which a result could be the argument itself, and
// others.
func errorCalls() []listCall {
	calls := []listCall{
		{"NinesOf", func(p, q []int) [][]int { return one(impl.NinesOf(p), true) }},
		{"ElevensOf", func(p, q []int) [][]int { return one(impl.ElevensOf(p), true) }},
		{"WrongNines", func(p, q []int) [][]int { return one(impl.WrongNines(p, q), true) }},
		{"WrongNines of itself", func(p, q []int) [][]int { return one(impl.WrongNines(p, p), true) }},
		{"DiagnoseSlip", func(p, q []int) [][]int { impl.DiagnoseSlip(p, q); return nil }},
		{"DiagnoseSlip of itself", func(p, q []int) [][]int { impl.DiagnoseSlip(p, p); return nil }},
		{"ErrataOf", func(p, q []int) [][]int { impl.ErrataOf(p, q); return nil }},
		{"ApplyErrata of none", func(p, q []int) [][]int { return one(impl.ApplyErrata(p, nil)) }},
		{"ApplyErrata of all", func(p, q []int) [][]int { return one(impl.ApplyErrata(p, wantedErrata(make([]int, len(p)), p))) }},
		{"ApplyErrata of wrong ones", func(p, q []int) [][]int { return one(impl.ApplyErrata(p, threes(3))) }},
	}
	for _, n := range []int{-1, 0, 1, 2, 3, 6, 7} {
		calls = append(calls,
			listCall{fmt.Sprintf("CleanTable, %d", n), func(p, q []int) [][]int { impl.CleanTable(p, n); return nil }},
			listCall{fmt.Sprintf("FindError, %d", n), func(p, q []int) [][]int { impl.FindError(p, n); return nil }},
			listCall{fmt.Sprintf("CorrectTable, %d", n), func(p, q []int) [][]int { return one(impl.CorrectTable(p, n)) }},
			listCall{fmt.Sprintf("PutError at %d", n), func(p, q []int) [][]int { return one(impl.PutError(p, n, 5)) }},
			listCall{fmt.Sprintf("PutError at %d by nothing", n), func(p, q []int) [][]int { return one(impl.PutError(p, n, 0)) }},
			listCall{fmt.Sprintf("ErrorPattern, %d", n), func(p, q []int) [][]int { return one(impl.ErrorPattern(n, 9), true) }},
			listCall{fmt.Sprintf("SlipEffect, %d", n), func(p, q []int) [][]int { return one(impl.SlipEffect(n, 1, 9, 20)) }},
		)
	}
	return calls
}

// errorLists are the lists of the memory tests, ones with an error among them.
func errorLists() [][]int {
	lists := memoryLists()
	for _, at := range []int{0, 3, 8} {
		lists = append(lists, changedBy(rowFrom([]int{0, 1, 2}, 0, 9), at, 7))
	}
	return lists
}

func TestTablesStay(t *testing.T) {
	for _, c := range errorCalls() {
		for _, p := range errorLists() {
			for _, q := range [][]int{{0}, {1}, {2, 0, 4}, {3, 1, 4}, make([]int, 9), make([]int, 60), {100001}} {
				first, firstMemory := guarded(p)
				second, secondMemory := guarded(q)
				firstBefore, secondBefore := slices.Clone(firstMemory), slices.Clone(secondMemory)
				lists := c.call(first, second)
				if !slices.Equal(firstMemory, firstBefore) || !slices.Equal(secondMemory, secondBefore) {
					t.Fatalf("%s of %v and %v changes its arguments or memory beyond them", c.name, p, q)
				}
				for _, list := range lists {
					scribble(list, 999)
				}
				if !slices.Equal(firstMemory, firstBefore) || !slices.Equal(secondMemory, secondBefore) {
					t.Fatalf("a result of %s of %v and %v shares memory with an argument", c.name, p, q)
				}
			}
		}
	}
}

func TestCorrectionsAreNew(t *testing.T) {
	for _, c := range errorCalls() {
		for _, p := range errorLists() {
			for _, q := range [][]int{{0}, {2, 0, 4}, make([]int, 9)} {
				before := fmt.Sprint(c.call(p, q))
				lists := c.call(p, q)
				for _, list := range c.call(p, q) {
					scribble(list, 999)
				}
				if fmt.Sprint(lists) != before || fmt.Sprint(c.call(p, q)) != before {
					t.Fatalf("results of %s of %v and %v share memory, or state is kept", c.name, p, q)
				}
			}
		}
	}
}

// guardedErrata returns a copy of errata, and the memory that they are in,
// which has sentinels past their number.
func guardedErrata(list []impl.Erratum) ([]impl.Erratum, []impl.Erratum) {
	memory := slices.Concat(list, slices.Repeat([]impl.Erratum{{At: sentinel, Wrong: sentinel, Right: sentinel}}, 8))
	return memory[:len(list)], memory
}

// scribbleErrata writes over errata, their unused capacity included.
func scribbleErrata(list []impl.Erratum) {
	list = list[:cap(list)]
	for i := range list {
		list[i] = impl.Erratum{At: 999, Wrong: 999, Right: 999}
	}
}

func TestErrataStay(t *testing.T) {
	for _, list := range slices.Concat(sampleErrata(), notErrata()) {
		printed := make([]int, 60)
		for _, e := range list {
			if e.At >= 0 && e.At < 60 {
				printed[e.At] = e.Wrong
			}
		}
		for _, length := range []int{0, 11, 60} {
			argument, memory := guardedErrata(list)
			table, tableMemory := guarded(printed[:length])
			before, tableBefore := slices.Clone(memory), slices.Clone(tableMemory)
			impl.FormatErrata(argument)
			corrected, _ := impl.ApplyErrata(table, argument)
			scribble(corrected, 999)
			if !slices.Equal(memory, before) || !slices.Equal(tableMemory, tableBefore) {
				t.Fatalf("FormatErrata or ApplyErrata of %v changes its arguments or shares their memory", list)
			}
		}
	}
}

func TestMadeErrataAreNew(t *testing.T) {
	for _, list := range sampleErrata() {
		text := errataText(list)
		right, printed := make([]int, 60), make([]int, 60)
		for _, e := range list {
			right[e.At], printed[e.At] = e.Right, e.Wrong
		}
		for name, produce := range map[string]func() ([]impl.Erratum, bool){
			"ParseErrata": func() ([]impl.Erratum, bool) { return impl.ParseErrata(text) },
			"ErrataOf":    func() ([]impl.Erratum, bool) { return impl.ErrataOf(right, printed) },
		} {
			first, _ := produce()
			again, _ := produce()
			scribbleErrata(again)
			third, ok := produce()
			if errataText(first) != text || errataText(third) != text || !ok {
				t.Errorf("results of %s for %q share memory: %v, %v", name, text, first, third)
			}
		}
	}
}

// RunWithSlip has an engine as its argument.
func TestSlippedEnginesStay(t *testing.T) {
	for _, e := range memoryEngines() {
		for column := range 7 {
			for _, turn := range []int{0, 1, 5, 60} {
				argument, memory := guardedEngine(e)
				before := slices.Clone(memory)
				first, _ := impl.RunWithSlip(argument, 5, turn, column, 77)
				text := fmt.Sprint(first)
				again, _ := impl.RunWithSlip(argument, 5, turn, column, 77)
				scribble(again, 999)
				third, _ := impl.RunWithSlip(argument, 5, turn, column, 77)
				if !slices.Equal(memory, before) || fmt.Sprint(first) != text || fmt.Sprint(third) != text {
					t.Fatalf("RunWithSlip of %s changes its argument, or results share memory", textOf(e))
				}
			}
		}
	}
}

// slipRuns returns the results of an engine with some slips.
func slipRuns(e impl.Engine) string {
	text := ""
	for column := range 7 {
		for _, turn := range []int{0, 3, 59} {
			list, ok := impl.RunWithSlip(e, 20, turn, column, 99999)
			text += fmt.Sprintln(column, turn, list, ok)
		}
	}
	return text
}

// A result is the same however goroutines are scheduled, and while many calls
// for the same engine are under way.
func TestSchedulingIsNotSeenInSlips(t *testing.T) {
	before := runtime.GOMAXPROCS(1)
	defer runtime.GOMAXPROCS(before)
	engines := memoryEngines()
	wanted := []string{}
	for _, e := range engines {
		wanted = append(wanted, slipRuns(e))
	}
	for _, processors := range []int{1, 2, 8, 32} {
		runtime.GOMAXPROCS(processors)
		var callers sync.WaitGroup
		for i, e := range engines {
			callers.Go(func() {
				if slipRuns(e) != wanted[i] {
					t.Errorf("with %d processors, a result for %s is another one", processors, textOf(e))
				}
			})
		}
		callers.Wait()
	}
}

// A goroutine that waits for ever after a call would be a deadlock here.
func TestNoGoroutineStaysAfterSlips(t *testing.T) {
	for _, e := range memoryEngines() {
		synctest.Test(t, func(t *testing.T) { slipRuns(e) })
	}
}

// A map is ranged over in another order each time; a search always finds the
// same, also in tables in which several entries come near to an error.
func TestOrderIsNotSeen(t *testing.T) {
	for degree := range 7 {
		for length := degree + 3; length <= degree+6; length++ {
			single := changedBy(rowFrom([]int{2, 7, 1, 8, 2, 8, 1}[:degree+1], -3, length), length/2, 3)
			for _, values := range [][]int{single, changedBy(single, 0, 3), changedBy(single, length-1, 1), changedBy(single, length/2-1, -3)} {
				want := wantedError(t, values, degree)
				slipped := changedBy(values, length-1, 4)
				column, turn, amount, _ := impl.DiagnoseSlip(values, slipped)
				for range 60 {
					expectFound(t, values, degree, want)
					expectSlip(t, values, slipped, slip{column, turn, amount}, true)
				}
			}
		}
	}
}
