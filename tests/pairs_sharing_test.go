package tests

import (
	"fmt"
	"slices"
	"strings"
	"testing"

	"loop.example/differenceengine/impl"
)

// wantedSteps returns the engines that print every m-th value of a polynomial;
// false if one of them, or a polynomial on the way to it, is not valid.
func wantedSteps(p []int, from, m, width int) ([]impl.Engine, bool) {
	rows := [][]int{}
	for i := range m {
		shifted := differencesOfValues(len(p), func(n int) int { return definedValue(p, from+i+n) })
		if from+i < -200 || from+i > 200 || !isPoly(shifted) {
			return nil, false
		}
		rows = append(rows, differencesOfValues(len(p), func(n int) int { return definedValue(p, from+i+m*n) }))
	}
	return wantedEngines(rows, width)
}

func TestStepEngines(t *testing.T) {
	made := 0
	for _, p := range samplePolys() {
		for _, from := range []int{-200, -41, -1, 0, 3, 190, 191, 195, 200} {
			for m := 1; m <= 10; m++ {
				for _, width := range []int{1, 2, 3, 5, 6, 12} {
					got, ok := impl.StepEngines(p, from, m, width)
					want, wantOK := wantedSteps(p, from, m, width)
					expectEngines(t, fmt.Sprintf("StepEngines(%v, %d, %d, %d)", p, from, m, width), got, ok, want, wantOK)
					if ok {
						made++
					}
				}
			}
		}
	}
	if made < 1000 {
		t.Errorf("only %d of the samples can be set up", made)
	}
}

func TestNoStepEngines(t *testing.T) {
	none := func(p []int, from, m, width int) {
		got, ok := impl.StepEngines(p, from, m, width)
		expectEngines(t, fmt.Sprintf("StepEngines(%v, %d, %d, %d)", p, from, m, width), got, ok, nil, false)
	}
	for _, p := range notPolys() {
		none(p, 0, 1, 12)
		none(p, 1, 2, 4)
		none(p, 0, 0, 4)
	}
	for _, m := range []int{0, -1, -2, -10, 11, 12, 1000, minInt, minInt + 1, maxInt} {
		none([]int{0, 1, 2}, 1, m, 4)
		none([]int{0}, 0, m, 1)
	}
	for _, from := range notArguments {
		for _, m := range []int{1, 2, 10} {
			none([]int{4}, from, m, 1)
		}
	}
	for _, width := range notWidths {
		none([]int{0, 1, 2}, 1, 2, width)
	}
	// Only the last of the engines would begin past the last argument.
	none([]int{4}, 200, 2, 1)
	none([]int{4}, 191, 11, 1)
	none([]int{4}, 192, 10, 1)
}

// Known engines: the last one that is possible, and ones of which the last one
// has no column or no polynomial, on the way to it or in the end.
func TestKnownSteps(t *testing.T) {
	for _, c := range []struct {
		p              []int
		from, m, width int
		want           string
	}{
		{[]int{0, 1, 2}, 1, 2, 4, "0001 0008 0008/0004 0012 0008"}, {[]int{0, 1, 2}, 1, 1, 4, "0001 0003 0002"}, {[]int{4}, 191, 10, 1, "4/4/4/4/4/4/4/4/4/4"}, {[]int{4}, -200, 2, 1, "4/4"},
		{[]int{0, 1}, 3, 2, 1, "3 2/4 2"}, {[]int{0, 1}, 4, 2, 1, ""}, {[]int{0, 1}, 0, 4, 1, "0 4/1 4/2 4/3 4"}, {[]int{0, 1}, 0, 5, 1, ""}, {[]int{0, 1}, 0, 5, 2, "00 05/01 05/02 05/03 05/04 05"},
		{[]int{99999, 1}, 0, 2, 12, "000000099999 000000000002/000000100000 000000000002"}, {[]int{99999, 1}, 0, 3, 12, ""}, {[]int{0, 50000}, 0, 2, 12, "000000000000 000000100000/000000050000 000000100000"}, {[]int{0, 50001}, 0, 2, 12, ""}, {[]int{0, -10000}, 0, 10, 6, "000000 900000/990000 900000/980000 900000/970000 900000/960000 900000/950000 900000/940000 900000/930000 900000/920000 900000/910000 900000"},
	} {
		got, ok := impl.StepEngines(c.p, c.from, c.m, c.width)
		expectEngines(t, fmt.Sprintf("StepEngines(%v, %d, %d, %d)", c.p, c.from, c.m, c.width), got, ok, enginesFrom(c.want), c.want != "")
	}
}

func TestRunSteps(t *testing.T) {
	for _, list := range sharingEngines() {
		runs := [][]int{}
		for _, e := range list {
			runs = append(runs, resultsFrom(e, 60))
		}
		for count := range 61 {
			want := []int{}
			for i := range count {
				want = append(want, runs[i%len(list)][i/len(list)])
			}
			got, ok := impl.RunSteps(list, count)
			expectList(t, fmt.Sprintf("RunSteps(%s, %d)", textsOf(list), count), got, ok, want, true)
		}
	}
	none := func(list []impl.Engine, count int) {
		got, ok := impl.RunSteps(list, count)
		expectNone(t, fmt.Sprintf("RunSteps(%s, %d)", textsOf(list), count), got, ok)
	}
	for _, list := range notSharing() {
		for _, count := range []int{0, 1, 9, 60, -1} {
			none(list, count)
		}
	}
	for _, list := range sharingEngines() {
		for _, count := range notCounts {
			none(list, count)
		}
	}
}

// sharedValues are the values of a polynomial that engines of a width show.
func sharedValues(p []int, from, count, width int) []int {
	values := rowFrom(p, from, count)
	for i := range values {
		values[i] = wrapped(values[i], width)
	}
	return values
}

// Promise 7: engines that take turns print the same table as a single one.
func TestStepsAreARun(t *testing.T) {
	made := 0
	for _, p := range samplePolys() {
		for _, from := range []int{-200, -7, 0, 2} {
			for m := 1; m <= 10; m++ {
				for _, width := range []int{2, 4, 7, 12} {
					list, ok := impl.StepEngines(p, from, m, width)
					if !ok {
						continue
					}
					got, ok := impl.RunSteps(list, 60)
					call := fmt.Sprintf("RunSteps of StepEngines(%v, %d, %d, %d)", p, from, m, width)
					expectList(t, call, got, ok, sharedValues(p, from, 60, width), true)
					if single, ok := impl.SetUp(p, from, width); ok {
						want, _ := impl.RunEngine(single, 60)
						expectNumbers(t, call, got, want)
						made++
					}
				}
			}
		}
	}
	if made < 300 {
		t.Errorf("only %d of the samples are held against a single engine", made)
	}
}

// wantedParts returns the engines that print a part of the values each.
func wantedParts(p []int, from int, sizes []int, width int) ([]impl.Engine, bool) {
	rows := [][]int{}
	for i := range sizes {
		at := from + sumOf(sizes[:i])
		if at < -200 || at > 200 {
			return nil, false
		}
		rows = append(rows, differencesOfValues(len(p), func(n int) int { return definedValue(p, at+n) }))
	}
	return wantedEngines(rows, width)
}

func TestPartEngines(t *testing.T) {
	made := 0
	for _, p := range samplePolys() {
		for _, from := range []int{-200, -5, 0, 1, 140, 141, 199, 200} {
			for _, sizes := range someSizes() {
				for _, width := range []int{1, 3, 12} {
					got, ok := impl.PartEngines(p, from, sizes, width)
					want, wantOK := wantedParts(p, from, sizes, width)
					expectEngines(t, fmt.Sprintf("PartEngines(%v, %d, %v, %d)", p, from, sizes, width), got, ok, want, wantOK)
					if ok {
						made++
					}
				}
			}
		}
	}
	if made < 1000 {
		t.Errorf("only %d of the samples can be set up", made)
	}
}

func TestNoPartEngines(t *testing.T) {
	none := func(p []int, from int, sizes []int, width int) {
		got, ok := impl.PartEngines(p, from, sizes, width)
		expectEngines(t, fmt.Sprintf("PartEngines(%v, %d, %v, %d)", p, from, sizes, width), got, ok, nil, false)
	}
	for _, p := range notPolys() {
		none(p, 0, []int{2, 3}, 12)
		none(p, 0, []int{0}, 12)
	}
	for _, sizes := range notSizes() {
		none([]int{4}, 0, sizes, 1)
		none([]int{0, 1, 2}, 0, sizes, 12)
		none([]int{4}, -200, sizes, 1)
	}
	for _, from := range notArguments {
		none([]int{4}, from, []int{0}, 1)
		none([]int{4}, from, []int{1}, 1)
		none([]int{4}, from, []int{2, 3}, 1)
	}
	for _, width := range notWidths {
		none([]int{4}, 0, []int{2, 3}, width)
		none([]int{4}, 0, []int{0}, width)
	}
}

// Known parts: without results, up to the last argument and past it, and ones of
// which only the last one has no column or no polynomial.
func TestKnownParts(t *testing.T) {
	for _, c := range []struct {
		p     []int
		from  int
		sizes []int
		width int
		want  string
	}{
		{[]int{0, 1, 2}, 1, []int{2, 0, 3}, 4, "0001 0003 0002/0009 0007 0002/0009 0007 0002"}, {[]int{0, 1, 2}, 1, []int{0}, 4, "0001 0003 0002"}, {[]int{0, 1, 2}, -1, []int{1, 1, 1}, 2, "01 99 02/00 01 02/01 03 02"},
		{[]int{4}, 200, []int{60}, 1, "4"}, {[]int{4}, 200, []int{0, 0, 0}, 1, "4/4/4"}, {[]int{4}, 200, []int{1, 0}, 1, ""}, {[]int{4}, 200, []int{0, 1}, 1, "4/4"}, {[]int{4}, 199, []int{1, 1}, 1, "4/4"}, {[]int{4}, 199, []int{1, 1, 0}, 1, ""}, {[]int{4}, 141, []int{59, 1}, 1, "4/4"}, {[]int{4}, 141, []int{60, 0}, 1, ""},
		{[]int{0, 1}, 0, []int{4, 56}, 1, "0 1/4 1"}, {[]int{0, 1}, 0, []int{5, 0}, 1, ""}, {[]int{0, 1}, 5, []int{0}, 1, ""}, {[]int{99999, 1}, 0, []int{1, 59}, 12, "000000099999 000000000001/000000100000 000000000001"}, {[]int{99999, 1}, 0, []int{2, 58}, 12, ""},
	} {
		got, ok := impl.PartEngines(c.p, c.from, c.sizes, c.width)
		expectEngines(t, fmt.Sprintf("PartEngines(%v, %d, %v, %d)", c.p, c.from, c.sizes, c.width), got, ok, enginesFrom(c.want), c.want != "")
	}
}

func TestRunParts(t *testing.T) {
	for _, list := range sharingEngines() {
		for _, sizes := range someSizes() {
			got, ok := impl.RunParts(list, sizes)
			call := fmt.Sprintf("RunParts(%s, %v)", textsOf(list), sizes)
			if len(list) != len(sizes) {
				expectNone(t, call, got, ok)
				continue
			}
			want := []int{}
			for i, e := range list {
				want = append(want, resultsFrom(e, sizes[i])...)
			}
			expectList(t, call, got, ok, want, true)
		}
		for _, sizes := range notSizes() {
			got, ok := impl.RunParts(list, sizes)
			expectNone(t, fmt.Sprintf("RunParts(%s, %v)", textsOf(list), sizes), got, ok)
		}
	}
	for _, list := range notSharing() {
		for _, sizes := range slices.Concat(someSizes(), [][]int{nil, make([]int, len(list)), slices.Repeat([]int{1}, len(list))}) {
			got, ok := impl.RunParts(list, sizes)
			expectNone(t, fmt.Sprintf("RunParts(%s, %v)", textsOf(list), sizes), got, ok)
		}
	}
}

// Promise 7: engines that print parts print the same table as a single one.
func TestPartsAreARun(t *testing.T) {
	made := 0
	for _, p := range samplePolys() {
		for _, from := range []int{-200, -7, 0, 2, 141} {
			for _, sizes := range someSizes() {
				for _, width := range []int{2, 4, 12} {
					list, ok := impl.PartEngines(p, from, sizes, width)
					if !ok {
						continue
					}
					got, ok := impl.RunParts(list, sizes)
					call := fmt.Sprintf("RunParts of PartEngines(%v, %d, %v, %d)", p, from, sizes, width)
					expectList(t, call, got, ok, sharedValues(p, from, sumOf(sizes), width), true)
					single, _ := impl.SetUp(p, from, width)
					want, ok := impl.RunEngine(single, sumOf(sizes))
					expectList(t, call, got, ok, want, true)
					made++
				}
			}
		}
	}
	if made < 1000 {
		t.Errorf("only %d of the samples are held against a single engine", made)
	}
}

// enginesFrom returns the engines with texts that have slashes between them.
func enginesFrom(texts string) []impl.Engine {
	if texts == "" {
		return nil
	}
	list := []impl.Engine{}
	for _, text := range strings.Split(texts, "/") {
		list = append(list, engineFrom(text))
	}
	return list
}
