package tests

import (
	"fmt"
	"slices"
	"testing"

	"loop.example/differenceengine/impl"
)

// resultsFrom returns what the first column stands for at first and after each
// turn, count numbers.
func resultsFrom(e impl.Engine, count int) []int {
	numbers, width := shownBy(e)
	results := []int{}
	for n := range count {
		results = append(results, standsFor(afterTurns(numbers, 0, n, width), width))
	}
	return results
}

// resultsInHalves returns the same for turns in halves.
func resultsInHalves(e impl.Engine, count int) []int {
	results := []int{}
	for range count {
		numbers, width := shownBy(e)
		results = append(results, standsFor(numbers[0], width))
		e = halfTurned(halfTurned(e, 0), 1)
	}
	return results
}

func TestRuns(t *testing.T) {
	for _, e := range sampleEngines() {
		for _, count := range []int{0, 1, 2, 17, 60} {
			got, ok := impl.RunEngine(e, count)
			expectList(t, fmt.Sprintf("RunEngine(%s, %d)", textOf(e), count), got, ok, resultsFrom(e, count), true)
			got, ok = impl.RunHalves(e, count)
			expectList(t, fmt.Sprintf("RunHalves(%s, %d)", textOf(e), count), got, ok, resultsInHalves(e, count), true)
		}
	}
}

func TestNoRuns(t *testing.T) {
	none := func(e impl.Engine, count int) {
		got, ok := impl.RunEngine(e, count)
		expectNone(t, fmt.Sprintf("RunEngine(%s, %d)", textOf(e), count), got, ok)
		got, ok = impl.RunHalves(e, count)
		expectNone(t, fmt.Sprintf("RunHalves(%s, %d)", textOf(e), count), got, ok)
	}
	for _, count := range notCounts {
		none(engineOf("0008", "0019", "0018", "0006"), count)
		none(engineOf("7"), count)
		none(impl.Engine{}, count)
	}
	for _, e := range notEngines() {
		for _, count := range []int{0, 1, 60} {
			none(e, count)
		}
	}
}

// wrapped returns the number that a column of a width shows instead of one that
// may not fit.
func wrapped(n, width int) int { return standsFor(modulo(n, tens(width)), width) }

// Promise 3: the values of a polynomial, by whole turns and by halves, forth
// and back. A value that does not fit is shown modulo a power of ten, and
// those after it are right again as soon as they fit.
func TestEngineShowsValues(t *testing.T) {
	for _, p := range samplePolys() {
		for _, from := range []int{-200, -40, -3, 0, 1, 12, 141} {
			for width := 1; width <= 12; width++ {
				e, ok := impl.SetUp(p, from, width)
				if !ok {
					continue
				}
				want := rowFrom(p, from, 60)
				capacity := impl.CapacityOf(p, from, width, 60)
				for i := range want {
					if fits := wrapped(want[i], width) == want[i]; i < capacity && !fits || i == capacity && fits {
						t.Fatalf("CapacityOf(%v, %d, %d, 60) = %d, but the value %d is %d", p, from, width, capacity, i, want[i])
					}
					want[i] = wrapped(want[i], width)
				}
				expectShown(t, e, want)
			}
		}
	}
}

// expectShown fails unless an engine shows the wanted results, in whichever way
// it turns.
func expectShown(t *testing.T, e impl.Engine, want []int) {
	t.Helper()
	got, ok := impl.RunEngine(e, len(want))
	expectList(t, "whole turns of "+textOf(e), got, ok, want, true)
	askew, _ := impl.SkewEngine(e)
	got, ok = impl.RunHalves(askew, len(want))
	expectList(t, "turns in halves of "+textOf(e), got, ok, want, true)
	far, _ := impl.TurnMany(e, len(want)-1)
	back := []int{}
	for range want {
		result, _ := impl.ResultOf(far)
		back = append(back, result)
		far, _ = impl.TurnBack(far)
	}
	slices.Reverse(back)
	expectNumbers(t, "turns back to "+textOf(e), back, want)
}

// Known runs with negative differences, with a single column, and with columns
// that overflow and come back.
func TestKnownRuns(t *testing.T) {
	for _, c := range []struct {
		p           []int
		from, width int
		want        []int
	}{
		{[]int{0, 1, 6, 6}, 2, 4, []int{8, 27, 64, 125, 216}},
		{[]int{0, 1, 6, 6}, -3, 3, []int{-27, -8, -1, 0, 1, 8, 27}},
		{[]int{9, -2}, 0, 2, []int{9, 7, 5, 3, 1, -1, -3}},
		{[]int{0, -1, -2}, -2, 1, []int{-4, -1, 0, -1, -4, 1, 4, -5, 4, 1, -4}},
		{[]int{7}, 100, 2, []int{7, 7, 7, 7}},
		{[]int{-5}, 0, 1, []int{-5, -5}},
		{[]int{0}, -200, 12, []int{0, 0, 0}},
		{[]int{40, 8, -2}, 0, 2, []int{40, 48, -46, -42, -40, -40, -42, -46, 48, 40, 30, 18, 4, -12}},
		{[]int{-49, -1}, 0, 2, []int{-49, -50, 49, 48}},
		{[]int{0, 0, 0, 1}, 0, 1, []int{0, 0, 0, 1, 4, 0, 0, -5, -4, 4}},
	} {
		e, ok := impl.SetUp(c.p, c.from, c.width)
		if !ok {
			t.Errorf("SetUp(%v, %d, %d) = false", c.p, c.from, c.width)
			continue
		}
		expectShown(t, e, c.want)
	}
}

// Columns that overflow, differences among them, are undone by turning back, and
// results that did not fit are followed by ones that do.
func TestOverflowComesBack(t *testing.T) {
	for _, width := range []int{1, 2, 3, 12} {
		half := tens(width) / 2
		e := engineShowing([]int{half - 1, half - 1, half - 1, 1}, width)
		for _, n := range []int{2, 299, -2, -299} {
			far, ok := impl.TurnMany(e, n)
			expectEngine(t, fmt.Sprintf("TurnMany(%s, %d)", textOf(e), n), far, ok, turnedEngine(e, n))
			got, ok := impl.TurnMany(far, -n)
			expectEngine(t, fmt.Sprintf("%d turns forth and back of %s", n, textOf(e)), got, ok, e)
		}
	}
	e, _ := impl.ParseEngine("40 10 95 92")
	got, ok := impl.RunEngine(e, 6)
	expectList(t, "RunEngine(40 10 95 92, 6)", got, ok, []int{40, 50 - 100, 55 - 100, 47, 18, -40}, true)
}
