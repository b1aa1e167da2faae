package tests

import (
	"fmt"
	"slices"
	"testing"

	"loop.example/differenceengine/impl"
)

func expectRun(t *testing.T, values []int, from, degree, want int) {
	t.Helper()
	expectNumber(t, fmt.Sprintf("LongestRun(%v, %d, %d)", values, from, degree), impl.LongestRun(values, from, degree), want)
}

func TestLongestRun(t *testing.T) {
	for _, values := range slices.Concat(shortTables(), smallTables()) {
		s := piecesOf(values)
		for degree := range 7 {
			for from := range len(values) + 1 {
				expectRun(t, values, from, degree, s.longest(from, degree))
			}
		}
	}
}

func TestKnownLongestRuns(t *testing.T) {
	squares := []int{0, 1, 4, 9, 10, 11}
	for _, c := range []struct{ from, degree, want int }{
		{0, 0, 1}, {0, 1, 2}, {0, 2, 4}, {0, 3, 4}, {0, 4, 5}, {0, 5, 6}, {0, 6, 6}, {3, 1, 3}, {3, 0, 1}, {2, 2, 3}, {4, 1, 2}, {5, 0, 1}, {5, 6, 1}, {6, 0, 0}, {6, 6, 0},
	} {
		expectRun(t, squares, c.from, c.degree, c.want)
	}
	for degree := range 7 {
		expectRun(t, make([]int, 60), 0, degree, 60)
		expectRun(t, make([]int, 60), 60, degree, 0)
		// So few entries always have a run, and one more may have none.
		expectRun(t, []int{1500, -1500, 1500, -1500, 1500, -1500, 1500, -1500}, 0, degree, degree+1)
		expectRun(t, []int{1500, -1500, 1500, -1500, 1500, -1500, 1500, -1500}, 8-degree, degree, degree)
	}
}

func TestNoLongestRun(t *testing.T) {
	for _, values := range notSmallTables() {
		for degree := range 7 {
			for _, from := range []int{-1, 0, 1, len(values), len(values) + 1} {
				expectRun(t, values, from, degree, -1)
			}
		}
	}
	for _, values := range smallTables() {
		for _, degree := range notDegrees {
			for _, from := range []int{0, len(values) - 1, len(values)} {
				expectRun(t, values, from, degree, -1)
			}
		}
		for _, from := range []int{-1, -2, -60, len(values) + 1, len(values) + 2, 61, 1000, minInt, maxInt} {
			for degree := range 7 {
				expectRun(t, values, from, degree, -1)
			}
		}
	}
	// The entry that is too great is before the place, or past the end of the run.
	expectRun(t, []int{1501, 0, 0}, 1, 2, -1)
	expectRun(t, []int{0, 1, 0, 1, 7, -1501}, 0, 1, -1)
	expectRun(t, []int{1500, 0, 0}, 1, 2, 2)
	expectRun(t, []int{0, 1, 0, 1, 7, -1500}, 0, 1, 2)
}

// expectSegment fails unless SegmentOf returns the wanted segment, or the zero
// value and false if a segment without entries is wanted.
func expectSegment(t *testing.T, values []int, from, count, degree int, want impl.Segment) {
	t.Helper()
	got, ok := impl.SegmentOf(values, from, count, degree)
	if got.Count != want.Count || !slices.Equal(got.Poly, want.Poly) || ok != (want.Count > 0) {
		t.Errorf("SegmentOf(%v, %d, %d, %d) = %v, %v; want %v", values, from, count, degree, got, ok, want)
	}
}

func TestSegmentOf(t *testing.T) {
	for _, values := range slices.Concat(shortTables(), smallTables()) {
		s := piecesOf(values)
		for from := range values {
			for count := 1; count <= len(values)-from; count++ {
				if len(values) > 12 && count%7 > 1 && count < len(values)-from {
					continue
				}
				for degree := range 7 {
					want := impl.Segment{}
					if s.hasRun(from, count, degree) {
						want = s.segment(from, count)
					}
					expectSegment(t, values, from, count, degree, want)
				}
			}
		}
	}
}

func TestKnownSegments(t *testing.T) {
	squares := []int{0, 1, 4, 9, 10, 11}
	expectSegment(t, squares, 1, 3, 2, impl.Segment{Count: 3, Poly: []int{1, 3, 2}})
	expectSegment(t, squares, 1, 3, 1, impl.Segment{})
	expectSegment(t, squares, 3, 3, 6, impl.Segment{Count: 3, Poly: []int{9, 1}})
	expectSegment(t, squares, 0, 6, 6, impl.Segment{Count: 6, Poly: []int{0, 1, 2, 0, -6, 16}})
	expectSegment(t, squares, 0, 1, 0, impl.Segment{Count: 1, Poly: []int{0}})
	expectSegment(t, squares, 5, 1, 6, impl.Segment{Count: 1, Poly: []int{11}})
	expectSegment(t, make([]int, 60), 0, 60, 0, impl.Segment{Count: 60, Poly: []int{0}})
	// The greatest differences of a small table.
	bounds := []int{1500, -1500, 1500, -1500, 1500, -1500, 1500, -1500}
	expectSegment(t, bounds, 0, 7, 6, impl.Segment{Count: 7, Poly: []int{1500, -3000, 6000, -12000, 24000, -48000, 96000}})
	expectSegment(t, bounds, 1, 7, 6, impl.Segment{Count: 7, Poly: []int{-1500, 3000, -6000, 12000, -24000, 48000, -96000}})
	expectSegment(t, bounds, 0, 8, 6, impl.Segment{})
}

func TestNoSegmentOf(t *testing.T) {
	none := impl.Segment{}
	for _, values := range notSmallTables() {
		for degree := range 7 {
			expectSegment(t, values, 0, 1, degree, none)
			expectSegment(t, values, 0, len(values), degree, none)
			expectSegment(t, values, len(values)-1, 1, degree, none)
		}
	}
	for _, values := range smallTables() {
		for _, degree := range notDegrees {
			expectSegment(t, values, 0, 1, degree, none)
			expectSegment(t, values, len(values)-1, 1, degree, none)
		}
		for _, from := range []int{-1, -60, len(values), len(values) + 1, 60, 61, minInt, maxInt, maxInt - 1} {
			for _, count := range []int{minInt, -1, 0, 1, 2, maxInt} {
				expectSegment(t, values, from, count, 6, none)
			}
		}
		for _, from := range []int{0, len(values) / 2, len(values) - 1} {
			for _, count := range []int{0, -1, -60, len(values) - from + 1, len(values) - from + 2, 61, minInt, maxInt, maxInt - 1, maxInt - from + 1} {
				expectSegment(t, values, from, count, 6, none)
			}
		}
	}
	expectSegment(t, make([]int, 9), 8, 2, 6, none)
	expectSegment(t, make([]int, 9), 9, 0, 6, none)
	expectSegment(t, []int{1501, 0, 0}, 1, 2, 2, none)
	expectSegment(t, []int{0, 0, -1501}, 0, 2, 2, none)
}

func expectGreedy(t *testing.T, values []int, degree int, want []impl.Segment) {
	t.Helper()
	got, ok := impl.GreedyPlan(values, degree)
	expectPlan(t, fmt.Sprintf("GreedyPlan(%v, %d)", values, degree), got, ok, want)
}

func expectFewest(t *testing.T, values []int, degree, want int) {
	t.Helper()
	expectNumber(t, fmt.Sprintf("FewestSegments(%v, %d)", values, degree), impl.FewestSegments(values, degree), want)
}

func TestGreedyPlan(t *testing.T) {
	for _, values := range slices.Concat(shortTables(), smallTables()) {
		s := piecesOf(values)
		for degree := range 7 {
			expectGreedy(t, values, degree, s.greedy(degree))
		}
	}
}

func TestKnownGreedyPlans(t *testing.T) {
	for _, c := range []struct {
		values []int
		degree int
		want   string
	}{
		{[]int{0, 1, 4, 9, 10, 11}, 2, "4:0 1 2/2:10 1"}, {[]int{0, 1, 4, 9, 10, 11}, 1, "2:0 1/2:4 5/2:10 1"}, {[]int{0, 1, 4, 9, 10, 11}, 0, "1:0/1:1/1:4/1:9/1:10/1:11"}, {[]int{0, 1, 4, 9, 10, 11}, 6, "6:0 1 2 0 -6 16"},
		{[]int{-7}, 3, "1:-7"}, {[]int{5, 5, 5, 5, 0, 0, 0, 0}, 0, "4:5/4:0"}, {[]int{5, 5, 5, 5, 0, 0, 0, 0}, 1, "4:5/4:0"}, {[]int{5, 5, 5, 5, 0, 0, 0, 0}, 6, "7:5 0 0 0 -5 20 -50/1:0"}, {[]int{0, 0, 0, 1}, 1, "3:0/1:1"}, {[]int{1500, -1500}, 1, "2:1500 -3000"},
	} {
		plan, ok := impl.GreedyPlan(c.values, c.degree)
		expectText(t, fmt.Sprintf("the text of GreedyPlan(%v, %d)", c.values, c.degree), planText(plan), ok, c.want, true)
	}
	expectGreedy(t, make([]int, 60), 0, planFrom([]int{0}, 60))
}

// The least number of runs of short tables is looked for among all plans, that
// of others step by step, from the shortest parts of the table on.
func TestFewestSegments(t *testing.T) {
	for _, values := range shortTables() {
		s := piecesOf(values)
		for degree := range 7 {
			fewest := len(values)
			for _, plan := range s.allPlans(degree) {
				fewest = min(fewest, len(plan))
			}
			expectFewest(t, values, degree, fewest)
		}
	}
	for _, values := range smallTables() {
		s := piecesOf(values)
		for degree := range 7 {
			expectFewest(t, values, degree, s.fewest(degree))
		}
	}
}

// fewest returns the least number of runs, from that of all beginnings of the
// table.
func (s pieces) fewest(degree int) int {
	fewest := []int{0}
	for end := 1; end <= len(s.values); end++ {
		least := end
		for from := range end {
			if s.hasRun(from, end-from, degree) {
				least = min(least, fewest[from]+1)
			}
		}
		fewest = append(fewest, least)
	}
	return fewest[len(s.values)]
}

// Promise 5: the longest runs make a plan of the table with the fewest segments,
// none of which could be longer.
func TestGreedyNeedsFewest(t *testing.T) {
	for _, values := range slices.Concat(shortTables(), smallTables()) {
		for degree := range 7 {
			plan, ok := impl.GreedyPlan(values, degree)
			call := fmt.Sprintf("GreedyPlan(%v, %d)", values, degree)
			expectNumber(t, "the length of "+call, len(plan), impl.FewestSegments(values, degree))
			list, _ := impl.PlanValues(plan)
			expectList(t, "the values of "+call, list, ok, values, true)
			if got := impl.PlanDegree(plan); got > degree {
				t.Errorf("the degree of %s = %d", call, got)
			}
		}
	}
}

func TestKnownFewest(t *testing.T) {
	for degree, want := range []int{6, 3, 2, 2, 2, 1, 1} {
		expectFewest(t, []int{0, 1, 4, 9, 10, 11}, degree, want)
	}
	for degree := range 7 {
		expectFewest(t, []int{1500}, degree, 1)
		expectFewest(t, []int{-1500}, degree, 1)
		expectFewest(t, make([]int, 60), degree, 1)
		bounds := slices.Repeat([]int{1500, -1500}, 30)
		expectFewest(t, bounds, degree, (60+degree)/(degree+1))
	}
}

func TestNoGreedyPlan(t *testing.T) {
	none := func(values []int, degree int) {
		plan, ok := impl.GreedyPlan(values, degree)
		expectNoPlan(t, fmt.Sprintf("GreedyPlan(%v, %d)", values, degree), plan, ok)
		expectFewest(t, values, degree, -1)
	}
	for _, values := range notSmallTables() {
		for degree := -1; degree <= 7; degree++ {
			none(values, degree)
		}
	}
	for _, values := range smallTables() {
		for _, degree := range notDegrees {
			none(values, degree)
		}
	}
}
