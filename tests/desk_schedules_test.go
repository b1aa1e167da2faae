package tests

import (
	"fmt"
	"slices"
	"testing"

	"loop.example/differenceengine/impl"
)

// greedySchedule gives each time to the first engine that has worked least so
// far.
func greedySchedule(times []int, engines int) []int {
	given := []int{}
	for range times {
		free := 0
		for engine := range engines {
			if busy(times, given, engine) < busy(times, given, free) {
				free = engine
			}
		}
		given = append(given, free)
	}
	return given
}

// Promise 8: no schedule ends before the best one; and of those that end with
// it, the best one is the first.
func TestSchedules(t *testing.T) {
	for engines := 1; engines <= 3; engines++ {
		byLength := [][][]int{}
		for length := range 9 {
			byLength = append(byLength, allSchedules(length, engines))
		}
		for _, times := range someTimes() {
			expectSchedules(t, times, engines, byLength[len(times)])
		}
	}
}

// expectSchedules compares what the chapter's functions return for times with
// all schedules of them, which are in order.
func expectSchedules(t *testing.T, times []int, engines int, schedules [][]int) {
	t.Helper()
	best := schedules[0]
	for _, given := range schedules {
		span := spanOf(times, given)
		if got := impl.SpanOf(times, given, engines); got != span {
			t.Fatalf("SpanOf(%v, %v, %d) = %d; want %d", times, given, engines, got, span)
		}
		if span < spanOf(times, best) {
			best = given
		}
	}
	call := fmt.Sprintf("of %v for %d engines", times, engines)
	if !impl.TimesValid(times) {
		t.Errorf("TimesValid(%v) = false", times)
	}
	expectNumbers(t, "BestSchedule "+call, impl.BestSchedule(times, engines), best)
	expectNumber(t, "LeastSpan "+call, impl.LeastSpan(times, engines), spanOf(times, best))
	greedy := impl.GreedySchedule(times, engines)
	expectNumbers(t, "GreedySchedule "+call, greedy, greedySchedule(times, engines))
	if impl.SpanOf(times, greedy, engines) < impl.LeastSpan(times, engines) {
		t.Errorf("the greedy schedule %s ends before the best one", call)
	}
}

func TestKnownSchedules(t *testing.T) {
	for _, c := range []struct {
		times       []int
		engines     int
		greedy      []int
		greedySpan  int
		best        []int
		least       int
		alone, last int // the spans of the first engine alone, and of the last one
	}{
		{[]int{3, 3, 2, 2, 2}, 2, []int{0, 1, 0, 1, 0}, 7, []int{0, 0, 1, 1, 1}, 6, 12, 12},
		{[]int{3, 3, 2, 2, 2}, 1, []int{0, 0, 0, 0, 0}, 12, []int{0, 0, 0, 0, 0}, 12, 12, 12},
		{[]int{3, 3, 2, 2, 2}, 3, []int{0, 1, 2, 2, 0}, 5, []int{0, 1, 0, 1, 2}, 5, 12, 12},
		{[]int{}, 2, []int{}, 0, []int{}, 0, 0, 0},
		{[]int{0, 0, 0}, 3, []int{0, 0, 0}, 0, []int{0, 0, 0}, 0, 0, 0},
		{[]int{1000}, 3, []int{0}, 1000, []int{0}, 1000, 1000, 1000},
		{[]int{1, 1, 1, 3}, 2, []int{0, 1, 0, 1}, 4, []int{0, 0, 0, 1}, 3, 6, 6},
		{[]int{1, 1, 1, 1, 1, 1, 1, 9}, 3, []int{0, 1, 2, 0, 1, 2, 0, 1}, 11, []int{0, 0, 0, 0, 0, 0, 0, 1}, 9, 16, 16},
		{[]int{1000, 1000, 1000, 1000, 1000, 1000, 1000, 1000}, 3, []int{0, 1, 2, 0, 1, 2, 0, 1}, 3000, []int{0, 0, 0, 1, 1, 1, 2, 2}, 3000, 8000, 8000},
	} {
		call := fmt.Sprintf("of %v for %d engines", c.times, c.engines)
		expectNumbers(t, "GreedySchedule "+call, impl.GreedySchedule(c.times, c.engines), c.greedy)
		expectNumber(t, "the greedy span "+call, impl.SpanOf(c.times, c.greedy, c.engines), c.greedySpan)
		expectNumbers(t, "BestSchedule "+call, impl.BestSchedule(c.times, c.engines), c.best)
		expectNumber(t, "LeastSpan "+call, impl.LeastSpan(c.times, c.engines), c.least)
		expectNumber(t, "the span of the first engine "+call, impl.SpanOf(c.times, make([]int, len(c.times)), c.engines), c.alone)
		expectNumber(t, "the span of the last engine "+call, impl.SpanOf(c.times, slices.Repeat([]int{c.engines - 1}, len(c.times)), c.engines), c.last)
	}
}

// The times of jobs are times, and are scheduled as such.
func TestTimesOfJobs(t *testing.T) {
	times := []int{}
	for _, j := range someJobs()[:8] {
		times = append(times, impl.JobTime(j))
	}
	for engines := 1; engines <= 3; engines++ {
		expectSchedules(t, times, engines, allSchedules(len(times), engines))
	}
}

// expectNoSchedule fails unless there is no schedule for times and a number of
// engines.
func expectNoSchedule(t *testing.T, times []int, engines int) {
	t.Helper()
	call := fmt.Sprintf("of %v for %d engines", times, engines)
	expectNumbers(t, "GreedySchedule "+call, impl.GreedySchedule(times, engines), nil)
	expectNumbers(t, "BestSchedule "+call, impl.BestSchedule(times, engines), nil)
	expectNumber(t, "LeastSpan "+call, impl.LeastSpan(times, engines), -1)
	expectNumber(t, "SpanOf "+call, impl.SpanOf(times, make([]int, len(times)), engines), -1)
	expectNumber(t, "SpanOf "+call+", of none", impl.SpanOf(times, nil, engines), -1)
}

func TestNoSchedules(t *testing.T) {
	for _, times := range notTimes() {
		if impl.TimesValid(times) {
			t.Errorf("TimesValid(%v) = true", times)
		}
		for _, engines := range []int{1, 2, 3, 0, 4} {
			expectNoSchedule(t, times, engines)
		}
	}
	for _, engines := range notNumbersOfEngines {
		for _, times := range someTimes() {
			expectNoSchedule(t, times, engines)
		}
	}
}

// A schedule has an engine for each time, and no other engines than there are.
func TestNoSpans(t *testing.T) {
	none := func(times, given []int, engines int) {
		t.Helper()
		expectNumber(t, fmt.Sprintf("SpanOf(%v, %v, %d)", times, given, engines), impl.SpanOf(times, given, engines), -1)
	}
	for engines := 1; engines <= 3; engines++ {
		for length := range 9 {
			times := slices.Repeat([]int{5}, length)
			for _, other := range []int{0, length - 1, length + 1, length + 2, 8, 9, 1000} {
				if other >= 0 && other != length {
					none(times, make([]int, other), engines)
				}
			}
			for place := range length {
				for _, engine := range []int{-1, -2, engines, engines + 1, 3, 8, minInt, minInt + 1, maxInt} {
					given := make([]int, length)
					given[place] = engine
					none(times, given, engines)
				}
			}
		}
	}
}
