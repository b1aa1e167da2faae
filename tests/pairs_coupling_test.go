package tests

import (
	"fmt"
	"slices"
	"testing"

	"loop.example/differenceengine/impl"
)

func TestJoinEngines(t *testing.T) {
	eachCouple(func(a, b impl.Engine) {
		got, ok := impl.JoinEngines(a, b)
		call := fmt.Sprintf("JoinEngines(%s, %s)", textOf(a), textOf(b))
		expectEngine(t, call, got, ok, engineOf(slices.Concat(b.Columns, a.Columns)...))
		feeding, fed, ok := impl.SplitEngine(got, len(b.Columns))
		expectEngine(t, "the first engine of "+call, feeding, ok, a)
		expectEngine(t, "the second engine of "+call, fed, ok, b)
	})
	eachNoCouple(func(a, b impl.Engine) {
		got, ok := impl.JoinEngines(a, b)
		expectNoEngine(t, fmt.Sprintf("JoinEngines(%s, %s)", textOf(a), textOf(b)), got, ok)
	})
}

func TestSplitEngine(t *testing.T) {
	none := func(e impl.Engine, n int) {
		rest, first, ok := impl.SplitEngine(e, n)
		call := fmt.Sprintf("SplitEngine(%s, %d)", textOf(e), n)
		expectNoEngine(t, call, rest, ok)
		expectNoEngine(t, call, first, ok)
	}
	for _, e := range sampleEngines() {
		for n := 1; n < len(e.Columns); n++ {
			rest, first, ok := impl.SplitEngine(e, n)
			call := fmt.Sprintf("SplitEngine(%s, %d)", textOf(e), n)
			expectEngine(t, call, rest, ok, engineOf(e.Columns[n:]...))
			expectEngine(t, call, first, ok, engineOf(e.Columns[:n]...))
			joined, ok := impl.JoinEngines(rest, first)
			expectEngine(t, "both engines of "+call, joined, ok, e)
		}
		for _, n := range []int{0, -1, -2, -7, len(e.Columns), len(e.Columns) + 1, 8, 60, minInt, minInt + 1, maxInt} {
			none(e, n)
		}
	}
	for _, e := range notEngines() {
		for _, n := range []int{-1, 0, 1, 2, 6, 7} {
			none(e, n)
		}
	}
	// One column too many, whichever engine has it.
	for n := range 10 {
		none(engineOf("0", "0", "0", "0", "0", "0", "0", "0"), n)
	}
}

// Promise 7: two engines, of which the first one feeds the second one, are one
// engine.
func TestCascadeTurn(t *testing.T) {
	eachCouple(func(a, b impl.Engine) {
		feeding, fed, ok := impl.CascadeTurn(a, b)
		wantFeeding, wantFed := fedTurn(a, b)
		call := fmt.Sprintf("CascadeTurn(%s, %s)", textOf(a), textOf(b))
		expectEngine(t, call, feeding, ok, wantFeeding)
		expectEngine(t, call, fed, ok, wantFed)
		joined, _ := impl.JoinEngines(a, b)
		turned, _ := impl.TurnWhole(joined)
		again, ok := impl.JoinEngines(feeding, fed)
		expectEngine(t, "both engines of "+call, again, ok, turned)
		expectEngine(t, call, turned, ok, turnedEngine(engineOf(slices.Concat(b.Columns, a.Columns)...), 1))
	})
	eachNoCouple(func(a, b impl.Engine) {
		feeding, fed, ok := impl.CascadeTurn(a, b)
		call := fmt.Sprintf("CascadeTurn(%s, %s)", textOf(a), textOf(b))
		expectNoEngine(t, call, feeding, ok)
		expectNoEngine(t, call, fed, ok)
	})
}

func TestRunCascade(t *testing.T) {
	eachCouple(func(a, b impl.Engine) {
		for _, count := range []int{0, 1, 2, 9} {
			got, ok := impl.RunCascade(a, b, count)
			call := fmt.Sprintf("RunCascade(%s, %s, %d)", textOf(a), textOf(b), count)
			expectList(t, call, got, ok, fedResults(a, b, count), true)
			joined, _ := impl.JoinEngines(a, b)
			single, ok := impl.RunEngine(joined, count)
			expectList(t, call, got, ok, single, true)
		}
	})
	none := func(a, b impl.Engine, count int) {
		got, ok := impl.RunCascade(a, b, count)
		expectNone(t, fmt.Sprintf("RunCascade(%s, %s, %d)", textOf(a), textOf(b), count), got, ok)
	}
	eachNoCouple(func(a, b impl.Engine) {
		for _, count := range []int{0, 1, 4, -1} {
			none(a, b, count)
		}
	})
	for _, count := range notCounts {
		none(engineOf("0001", "0002"), engineOf("0000"), count)
		none(engineOf("7"), engineOf("1"), count)
	}
}

// Turning both engines again and again shows what a run shows.
func TestCascadeTurnsAreARun(t *testing.T) {
	for width := 1; width <= 12; width++ {
		for count := 1; count <= 6; count++ {
			a, b := engineKinds(count, width)[3], engineKinds(7-count, width)[4]
			want, ok := impl.RunCascade(a, b, 60)
			expectList(t, fmt.Sprintf("RunCascade(%s, %s, 60)", textOf(a), textOf(b)), want, ok, fedResults(a, b, 60), true)
			results := []int{}
			for range 60 {
				result, _ := impl.ResultOf(b)
				results = append(results, result)
				if a, b, ok = impl.CascadeTurn(a, b); !ok {
					t.Fatalf("a turn of %s and %s returns false", textOf(a), textOf(b))
				}
			}
			expectNumbers(t, fmt.Sprintf("turns of engines of %d and %d columns", count, 7-count), results, want)
		}
	}
}

// halvedBounds are the bounds of the numbers that columns of a width stand for,
// and numbers near them.
func halvedBounds(width int) []int {
	half := tens(width) / 2
	return []int{0, 1, -1, half - 2, half - 1, half, half + 1, -half - 1, -half, -half + 1, 2 * half, -2 * half, 2*half - 1, maxInt, minInt, minInt + 1}
}

func TestSumEngine(t *testing.T) {
	for _, e := range sampleEngines() {
		width := len(e.Columns[0])
		for _, start := range halvedBounds(width) {
			got, ok := impl.SumEngine(e, start)
			call := fmt.Sprintf("SumEngine(%s, %d)", textOf(e), start)
			if start < -tens(width)/2 || start >= tens(width)/2 || len(e.Columns) == 7 {
				expectNoEngine(t, call, got, ok)
				continue
			}
			expectEngine(t, call, got, ok, engineOf(slices.Concat([]string{showing(start, width)}, e.Columns)...))
		}
	}
	for _, e := range notEngines() {
		for _, start := range []int{0, 1, -1, 12, 600, minInt, maxInt} {
			got, ok := impl.SumEngine(e, start)
			expectNoEngine(t, fmt.Sprintf("SumEngine(%s, %d)", textOf(e), start), got, ok)
		}
	}
}

func TestTotalOf(t *testing.T) {
	none := func(e impl.Engine, count int) {
		if n, ok := impl.TotalOf(e, count); n != 0 || ok {
			t.Errorf("TotalOf(%s, %d) = %d, %v; want 0, false", textOf(e), count, n, ok)
		}
	}
	for _, e := range sampleEngines() {
		for _, count := range []int{0, 1, 2, 5, 31, 59, 60} {
			if len(e.Columns) == 7 {
				none(e, count)
				continue
			}
			want := wrapped(sumOf(resultsFrom(e, count)), len(e.Columns[0]))
			if n, ok := impl.TotalOf(e, count); n != want || !ok {
				t.Errorf("TotalOf(%s, %d) = %d, %v; want %d", textOf(e), count, n, ok, want)
			}
		}
		none(e, -1)
		none(e, 61)
	}
	for _, count := range notCounts {
		none(engineOf("0001", "0002"), count)
		none(engineOf("7"), count)
	}
	for _, e := range notEngines() {
		for _, count := range []int{-1, 0, 1, 60} {
			none(e, count)
		}
	}
}

// The sums of an engine's results are the results of its sum engine.
func TestSumsAreResults(t *testing.T) {
	for _, e := range sampleEngines() {
		if len(e.Columns) == 7 {
			continue
		}
		for _, start := range []int{0, 4, -5} {
			adding, ok := impl.SumEngine(e, start)
			if !ok {
				t.Fatalf("SumEngine(%s, %d) = false", textOf(e), start)
			}
			sums, _ := impl.RunEngine(adding, 60)
			for _, n := range []int{0, 1, 2, 30, 59} {
				total, _ := impl.TotalOf(e, n)
				expectNumber(t, fmt.Sprintf("sum %d from %d on of %s", n, start, textOf(e)), sums[n], wrapped(start+total, len(e.Columns[0])))
			}
		}
	}
}

// Known engines: the odd numbers feed squares, a single column feeds a single
// column, and all seven columns are used.
func TestKnownCouples(t *testing.T) {
	for _, c := range []struct {
		a, b, joined, feeding, fed string
		results                    []int
	}{
		{"0001 0002", "0000", "0000 0001 0002", "0003 0002", "0001", []int{0, 1, 4, 9, 16}},
		{"7", "1", "1 7", "7", "8", []int{1, -2, -5, 2, -1, -4, 3}},
		{"6", "0 1", "0 1 6", "6", "1 7", []int{0, 1, -2, 1, 0, -5}},
		{"0006", "0000 0001 0006", "0000 0001 0006 0006", "0006", "0001 0007 0012", []int{0, 1, 8, 27, 64}},
		{"99 01", "50", "50 99 01", "00 01", "49", []int{-50, 49, 49, 50 - 100, -48, -45}},
		{"1 1 1 1 1 1", "1", "1 1 1 1 1 1 1", "2 2 2 2 2 1", "2", []int{1, 2, 4, -2, -4, 2}},
		{"1", "1 1 1 1 1 1", "1 1 1 1 1 1 1", "1", "2 2 2 2 2 2", []int{1, 2, 4, -2, -4, 2}},
	} {
		a, _ := impl.ParseEngine(c.a)
		b, _ := impl.ParseEngine(c.b)
		joined, ok := impl.JoinEngines(a, b)
		expectEngine(t, "joined "+c.a+", "+c.b, joined, ok, engineFrom(c.joined))
		feeding, fed, ok := impl.CascadeTurn(a, b)
		expectEngine(t, "turned "+c.a, feeding, ok, engineFrom(c.feeding))
		expectEngine(t, "turned "+c.b, fed, ok, engineFrom(c.fed))
		results, ok := impl.RunCascade(a, b, len(c.results))
		expectList(t, "RunCascade of "+c.a+", "+c.b, results, ok, c.results, true)
	}
	e := engineOf("0001", "0002")
	for count, want := range map[int]int{0: 0, 1: 1, 2: 4, 5: 25, 60: 3600} {
		if n, ok := impl.TotalOf(e, count); n != want || !ok {
			t.Errorf("TotalOf(0001 0002, %d) = %d, %v; want %d", count, n, ok, want)
		}
	}
	// The sums of more numbers than fit are shown as columns show them.
	for count, want := range map[int]int{1: 4, 2: -2, 3: 2, 5: 0} {
		if n, ok := impl.TotalOf(engineOf("4"), count); n != want || !ok {
			t.Errorf("TotalOf(4, %d) = %d, %v; want %d", count, n, ok, want)
		}
	}
}

// engineFrom returns the engine with a text of columns and single spaces.
func engineFrom(text string) impl.Engine {
	e, _ := impl.ParseEngine(text)
	return e
}
