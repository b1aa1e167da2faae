package tests

import (
	"fmt"
	"slices"
	"testing"

	"loop.example/differenceengine/impl"
)

// replaced returns the segments of a plan with others in the place of some.
func replaced(plan []impl.Segment, from, to int, others ...impl.Segment) []impl.Segment {
	return slices.Concat(plan[:from], others, plan[to:])
}

// wantedSplit returns what SplitSegment is to return; nil if that is nothing.
func wantedSplit(plan []impl.Segment, i, at int) []impl.Segment {
	if i < 0 || i >= len(plan) || at < 1 || at >= plan[i].Count {
		return nil
	}
	p := plan[i].Poly
	shifted := differencesOfValues(len(p), func(n int) int { return definedValue(p, at+n) })
	if !isPoly(shifted) {
		return nil
	}
	return replaced(plan, i, i+1, impl.Segment{Count: at, Poly: p}, impl.Segment{Count: plan[i].Count - at, Poly: shifted})
}

func expectSplit(t *testing.T, plan []impl.Segment, i, at int, want []impl.Segment) {
	t.Helper()
	got, ok := impl.SplitSegment(plan, i, at)
	call := fmt.Sprintf("SplitSegment(%v, %d, %d)", plan, i, at)
	if want == nil {
		expectNoPlan(t, call, got, ok)
		return
	}
	expectPlan(t, call, got, ok, want)
}

func TestSplitSegment(t *testing.T) {
	split, refused := 0, 0
	for _, plan := range samplePlans() {
		for i := range plan {
			for at := range plan[i].Count + 2 {
				want := wantedSplit(plan, i, at)
				expectSplit(t, plan, i, at, want)
				if want != nil {
					split++
				} else if at > 0 && at < plan[i].Count {
					refused++
				}
			}
		}
	}
	if split == 0 || refused == 0 {
		t.Errorf("%d segments were split, and %d not", split, refused)
	}
}

func TestKnownSplits(t *testing.T) {
	for _, c := range []struct {
		plan  string
		i, at int
		want  string
	}{
		{"4:0 1 2/2:10 1", 0, 1, "1:0 1 2/3:1 3 2/2:10 1"}, {"4:0 1 2/2:10 1", 0, 3, "3:0 1 2/1:9 7 2/2:10 1"}, {"4:0 1 2/2:10 1", 1, 1, "4:0 1 2/1:10 1/1:11 1"}, {"4:0 1 2/2:10 1", 0, 4, ""}, {"4:0 1 2/2:10 1", 1, 2, ""},
		{"3:7 0 0", 0, 2, "2:7 0 0/1:7 0 0"}, {"60:5", 0, 30, "30:5/30:5"}, {"60:5", 0, 59, "59:5/1:5"}, {"1:5", 0, 1, ""}, {"2:5", 0, 1, "1:5/1:5"},
		// A difference of the second part would be too great, or is not yet.
		{"5:99998 1", 0, 2, "2:99998 1/3:100000 1"}, {"5:99998 1", 0, 3, ""}, {"5:0 99998 1", 0, 2, ""}, {"5:-99999 99998 1", 0, 1, "1:-99999 99998 1/4:-1 99999 1"}, {"5:-99999 99998 1", 0, 2, "2:-99999 99998 1/3:99998 100000 1"}, {"5:-99999 99998 1", 0, 3, ""},
		{"1:4/5:-99998 -1/2:8", 1, 2, "1:4/2:-99998 -1/3:-100000 -1/2:8"}, {"1:4/5:-99998 -1/2:8", 1, 3, ""},
	} {
		plan, ok := impl.ParsePlan(c.plan)
		got, gotOK := impl.SplitSegment(plan, c.i, c.at)
		expectText(t, fmt.Sprintf("SplitSegment of %s, %d, %d", c.plan, c.i, c.at), planText(got), gotOK, c.want, ok && c.want != "")
	}
}

func TestNoSplits(t *testing.T) {
	for _, plan := range samplePlans() {
		for _, i := range []int{-1, -2, -60, len(plan), len(plan) + 1, 60, 61, minInt, maxInt} {
			for _, at := range []int{1, 2} {
				expectSplit(t, plan, i, at, nil)
			}
		}
		for i := range plan {
			for _, at := range []int{0, -1, -60, plan[i].Count, plan[i].Count + 1, 60, 61, 200, 201, minInt, maxInt} {
				expectSplit(t, plan, i, at, nil)
			}
		}
	}
	for _, plan := range notPlans() {
		for i := range min(len(plan), 4) {
			expectSplit(t, plan, i, 1, nil)
			expectSplit(t, plan, i, 29, nil)
		}
		expectSplit(t, plan, 0, 1, nil)
	}
}

// wantedJoin returns what JoinSegments is to return; nil if that is nothing.
func wantedJoin(plan []impl.Segment, i, degree int) []impl.Segment {
	if i < 0 || i+1 >= len(plan) {
		return nil
	}
	values := slices.Concat(rowFrom(plan[i].Poly, 0, plan[i].Count), rowFrom(plan[i+1].Poly, 0, plan[i+1].Count))
	if definedDegree(values) > degree {
		return nil
	}
	joined := impl.Segment{Count: len(values)}
	for k := range max(definedDegree(values), 0) + 1 {
		joined.Poly = append(joined.Poly, definedDifference(values, k, 0))
	}
	if !isPoly(joined.Poly) {
		return nil
	}
	return replaced(plan, i, i+2, joined)
}

func expectJoin(t *testing.T, plan []impl.Segment, i, degree int, want []impl.Segment) {
	t.Helper()
	got, ok := impl.JoinSegments(plan, i, degree)
	call := fmt.Sprintf("JoinSegments(%v, %d, %d)", plan, i, degree)
	if want == nil {
		expectNoPlan(t, call, got, ok)
		return
	}
	expectPlan(t, call, got, ok, want)
}

// Segments that are next to each other by chance, and ones that are parts of a
// segment that was split.
func TestJoinSegments(t *testing.T) {
	for j, plan := range samplePlans() {
		for i := range plan {
			for degree := range 7 {
				if i < 8 || i > 55 {
					expectJoin(t, plan, i, degree, wantedJoin(plan, i, degree))
				}
			}
			if at := 1 + j%max(plan[i].Count-1, 1); len(plan) < 10 {
				if split := wantedSplit(plan, i, at); split != nil {
					for degree := range 7 {
						expectJoin(t, split, i, degree, wantedJoin(split, i, degree))
					}
				}
			}
		}
	}
}

func TestKnownJoins(t *testing.T) {
	for _, c := range []struct {
		plan      string
		i, degree int
		want      string
	}{
		{"1:0 1 2/3:1 3 2/2:10 1", 0, 2, "4:0 1 2/2:10 1"}, {"1:0 1 2/3:1 3 2/2:10 1", 0, 6, "4:0 1 2/2:10 1"}, {"1:0 1 2/3:1 3 2/2:10 1", 0, 1, ""}, {"4:0 1 2/2:10 1", 0, 2, ""}, {"4:0 1 2/2:10 1", 0, 4, ""}, {"4:0 1 2/2:10 1", 0, 5, "6:0 1 2 0 -6 16"}, {"4:0 1 2/2:10 1", 0, 6, "6:0 1 2 0 -6 16"},
		// The others stay as they are, and the polynomial is that of a run.
		{"1:7 0 0/1:5/1:6/1:9 9", 1, 1, "1:7 0 0/2:5 1/1:9 9"}, {"1:7 0 0/1:5/1:5/1:9 9", 1, 0, "1:7 0 0/2:5/1:9 9"}, {"2:7 0 0/3:7 0", 0, 0, "5:7"}, {"2:0 0/1:0 1", 0, 0, "3:0"}, {"1:1 2 3 4 5 6 7/1:2 9 9", 0, 1, "2:1 1"}, {"30:1/30:1", 0, 3, "60:1"},
		{"1:1/1:2/1:4", 0, 1, "2:1 1/1:4"}, {"1:1/1:2/1:4", 1, 1, "1:1/2:2 2"}, {"1:1/1:2/1:4", 2, 1, ""}, {"1:1/1:2", 0, 0, ""}, {"5:3", 0, 6, ""},
		// A difference would be too great, although the degree is not, or is not yet.
		{"1:50000/1:-50000", 0, 1, "2:50000 -100000"}, {"1:50000/1:-50001", 0, 1, ""}, {"1:50000/1:-50001", 0, 6, ""}, {"1:-50001/1:50000", 0, 1, ""}, {"1:0/3:100000", 0, 6, "4:0 100000 -100000 100000"}, {"1:0/1:100000", 0, 6, "2:0 100000"}, {"2:0 100000/1:1", 0, 6, ""},
		// The entries of a plan may be too great for a small table.
		{"5:99998 1/3:0", 0, 6, ""}, {"3:99998 1/1:99999", 0, 3, "4:99998 1 0 -2"}, {"40:320 100000 10256 100000/1:0", 0, 6, ""}, {"40:0 100000 100/3:0 5", 0, 6, ""},
	} {
		plan, ok := impl.ParsePlan(c.plan)
		got, gotOK := impl.JoinSegments(plan, c.i, c.degree)
		expectText(t, fmt.Sprintf("JoinSegments of %s, %d, %d", c.plan, c.i, c.degree), planText(got), gotOK, c.want, ok && c.want != "")
	}
}

// A split segment is joined again, if its polynomial has no zeros at its end.
func TestSplitAndJoin(t *testing.T) {
	for _, values := range smallTables() {
		for degree := range 7 {
			plan, _ := impl.GreedyPlan(values, degree)
			for i := range min(len(plan), 3) {
				for at := 1; at < plan[i].Count; at += 5 {
					split, ok := impl.SplitSegment(plan, i, at)
					if !ok && wantedSplit(plan, i, at) == nil {
						continue
					}
					list, ok := impl.PlanValues(split)
					expectList(t, fmt.Sprintf("PlanValues(%v)", split), list, ok, values, true)
					expectJoin(t, split, i, degree, plan)
				}
			}
		}
	}
}

func TestNoJoins(t *testing.T) {
	for _, plan := range slices.Concat(samplePlans()[:12], [][]impl.Segment{planFrom([]int{4}, 3, 3), planFrom([]int{4}, 1, 1, 1)}) {
		for _, degree := range notDegrees {
			expectJoin(t, plan, 0, degree, nil)
			expectJoin(t, plan, len(plan)-2, degree, nil)
		}
		for _, i := range []int{-1, -2, len(plan) - 1, len(plan), len(plan) + 1, 60, minInt, maxInt, maxInt - 1, maxInt - 2} {
			for degree := range 7 {
				expectJoin(t, plan, i, degree, nil)
			}
		}
	}
	for _, plan := range notPlans() {
		for i := range min(len(plan), 4) {
			expectJoin(t, plan, i, 6, nil)
		}
		expectJoin(t, plan, 0, 0, nil)
	}
	// The segment that is in no plan is none of both.
	expectJoin(t, []impl.Segment{{Count: 1, Poly: []int{1}}, {Count: 1, Poly: []int{1}}, {Count: 0, Poly: []int{1}}}, 0, 6, nil)
	expectJoin(t, []impl.Segment{{Count: 1, Poly: []int{100001}}, {Count: 1, Poly: []int{1}}, {Count: 1, Poly: []int{1}}}, 1, 6, nil)
}
