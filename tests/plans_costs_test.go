package tests

import (
	"fmt"
	"slices"
	"testing"

	"loop.example/differenceengine/impl"
)

// A tariff has the costs of a segment and of a column.
type tariff struct {
	setup, column int
}

// someTariffs are costs: without costs, with one of both, with ones between
// which plans change, and with the greatest ones.
var someTariffs = []tariff{{0, 0}, {1, 0}, {0, 1}, {1, 1}, {5, 1}, {2, 3}, {1, 7}, {1000, 1000}, {1000, 0}, {0, 1000}, {999, 500}}

func expectCost(t *testing.T, plan []impl.Segment, setup, column, want int) {
	t.Helper()
	expectNumber(t, fmt.Sprintf("PlanCost(%v, %d, %d)", plan, setup, column), impl.PlanCost(plan, setup, column), want)
}

func TestPlanCost(t *testing.T) {
	for _, plan := range samplePlans() {
		for _, c := range someTariffs {
			expectCost(t, plan, c.setup, c.column, costOf(plan, c.setup, c.column))
		}
	}
	squares := []impl.Segment{{Count: 4, Poly: []int{0, 1, 2}}, {Count: 2, Poly: []int{10, 1}}}
	expectCost(t, squares, 5, 1, 15)
	expectCost(t, squares, 0, 1, 5)
	expectCost(t, squares, 1, 0, 2)
	expectCost(t, squares, 1000, 1000, 7000)
	// Zeros at the end are columns too.
	expectCost(t, planFrom([]int{3, 0, 0}, 2, 1), 10, 1, 26)
	expectCost(t, planFrom([]int{0}, 60), 0, 1, 1)
	expectCost(t, planFrom(make([]int, 7), slices.Repeat([]int{1}, 60)...), 1000, 1000, 480000)
}

func TestNoPlanCost(t *testing.T) {
	for _, plan := range notPlans() {
		for _, c := range someTariffs {
			expectCost(t, plan, c.setup, c.column, -1)
		}
	}
	for _, plan := range samplePlans() {
		for _, cost := range notCosts {
			for _, other := range []int{0, 1, 1000, cost} {
				expectCost(t, plan, cost, other, -1)
				expectCost(t, plan, other, cost, -1)
			}
		}
	}
}

func expectCheapest(t *testing.T, values []int, degree int, c tariff, want []impl.Segment) {
	t.Helper()
	got, ok := impl.CheapestPlan(values, degree, c.setup, c.column)
	expectPlan(t, fmt.Sprintf("CheapestPlan(%v, %d, %d, %d)", values, degree, c.setup, c.column), got, ok, want)
}

// The cheapest plan of a short table is looked for among all plans.
func TestCheapestPlan(t *testing.T) {
	for _, values := range shortTables() {
		s := piecesOf(values)
		for degree := range 7 {
			plans := s.allPlans(degree)
			for _, c := range someTariffs {
				expectCheapest(t, values, degree, c, cheapestOf(plans, c.setup, c.column))
			}
		}
	}
}

// costsFrom returns the least costs of the rests of a table, by the index from
// which they begin.
func (s pieces) costsFrom(degree int, c tariff) []int {
	costs := make([]int, len(s.values)+1)
	for from := len(s.values) - 1; from >= 0; from-- {
		costs[from] = maxInt
		for count := 1; count <= len(s.values)-from; count++ {
			if s.hasRun(from, count, degree) {
				costs[from] = min(costs[from], s.costFrom(from, count, c)+costs[from+count])
			}
		}
	}
	return costs
}

func (s pieces) costFrom(from, count int, c tariff) int {
	return costOf([]impl.Segment{s.segment(from, count)}, c.setup, c.column)
}

// cheapest takes, of the segments with which a cheapest plan of the rest can
// begin, the longest one each time.
func (s pieces) cheapest(degree int, c tariff) []impl.Segment {
	costs, counts := s.costsFrom(degree, c), []int{}
	for from := 0; from < len(s.values); from += counts[len(counts)-1] {
		count := len(s.values) - from
		for !s.hasRun(from, count, degree) || s.costFrom(from, count, c)+costs[from+count] != costs[from] {
			count--
		}
		counts = append(counts, count)
	}
	plan, _ := s.plan(counts, degree)
	return plan
}

func TestLongCheapestPlans(t *testing.T) {
	for _, values := range smallTables() {
		s := piecesOf(values)
		for degree := range 7 {
			for i, c := range someTariffs {
				if len(values) < 20 || i%3 == degree%3 {
					expectCheapest(t, values, degree, c, s.cheapest(degree, c))
				}
			}
		}
	}
}

func TestKnownCheapestPlans(t *testing.T) {
	squares := []int{0, 1, 4, 9, 10, 11}
	steps := []int{5, 5, 5, 5, 0, 0, 0, 0}
	for _, c := range []struct {
		values        []int
		degree        int
		setup, column int
		want          string
	}{
		{squares, 2, 5, 1, "4:0 1 2/2:10 1"}, {squares, 2, 0, 1, "4:0 1 2/2:10 1"}, {squares, 2, 0, 0, "4:0 1 2/2:10 1"}, {squares, 2, 1000, 1000, "4:0 1 2/2:10 1"},
		{squares, 6, 1000, 1, "6:0 1 2 0 -6 16"}, {squares, 6, 0, 0, "6:0 1 2 0 -6 16"}, {squares, 6, 0, 1, "4:0 1 2/2:10 1"}, {squares, 6, 1, 1, "6:0 1 2 0 -6 16"}, {squares, 6, 1, 2, "4:0 1 2/2:10 1"}, {squares, 0, 3, 4, "1:0/1:1/1:4/1:9/1:10/1:11"},
		{steps, 6, 1, 1, "4:5/4:0"}, {steps, 6, 0, 1, "4:5/4:0"}, {steps, 6, 0, 0, "7:5 0 0 0 -5 20 -50/1:0"}, {steps, 6, 1000, 0, "7:5 0 0 0 -5 20 -50/1:0"}, {steps, 1, 0, 0, "4:5/4:0"},
		// Segments of one entry cost less than a run, as much as it, or more.
		{[]int{0, 1, 4}, 2, 0, 1, "3:0 1 2"}, {[]int{0, 1}, 1, 0, 1, "2:0 1"}, {[]int{0, 1}, 1, 1, 1, "2:0 1"}, {[]int{0, 0, 1}, 2, 0, 1, "2:0/1:1"}, {[]int{0, 1, 1}, 2, 0, 1, "1:0/2:1"}, {[]int{0, 0, 1}, 2, 1, 1, "3:0 0 1"}, {[]int{0, 1, 1}, 2, 1, 1, "3:0 1 -1"}, {[]int{0, 1, 1}, 2, 1, 2, "1:0/2:1"},
		{[]int{7}, 0, 0, 0, "1:7"}, {[]int{-1500}, 6, 1000, 1000, "1:-1500"}, {[]int{0, 0, 0, 0}, 6, 0, 0, "4:0"}, {[]int{3, 1, 4, 1}, 0, 9, 9, "1:3/1:1/1:4/1:1"},
	} {
		plan, ok := impl.CheapestPlan(c.values, c.degree, c.setup, c.column)
		expectText(t, fmt.Sprintf("the text of CheapestPlan(%v, %d, %d, %d)", c.values, c.degree, c.setup, c.column), planText(plan), ok, c.want, true)
	}
	expectCheapest(t, make([]int, 60), 6, tariff{0, 0}, planFrom([]int{0}, 60))
}

// Several cheapest plans: their first segments differ, or only a later one, and
// the one with more entries is taken each time.
func TestSeveralCheapestPlans(t *testing.T) {
	seen := map[int]bool{}
	for _, values := range shortTables() {
		s := piecesOf(values)
		for _, c := range []tariff{{0, 0}, {0, 1}, {1, 1}, {1, 0}} {
			plans := s.allPlans(3)
			want := cheapestOf(plans, c.setup, c.column)
			for _, plan := range plans {
				if costOf(plan, c.setup, c.column) != costOf(want, c.setup, c.column) {
					continue
				}
				for i := range min(len(plan), len(want)) {
					if plan[i].Count != want[i].Count {
						seen[i] = true
						break
					}
				}
			}
			expectCheapest(t, values, 3, c, want)
		}
	}
	for i := range 4 {
		if !seen[i] {
			t.Errorf("no cheapest plans differ first in the segment %d", i)
		}
	}
}

// Promise 5: no plan of runs is cheaper than the cheapest one, which is a plan of
// the table; without other costs than those of segments, none has fewer of them.
func TestNoPlanIsCheaper(t *testing.T) {
	for i, values := range shortTables() {
		s := piecesOf(values)
		for degree := range 7 {
			for j, c := range someTariffs {
				if (i+j)%7 != degree {
					continue
				}
				cheapest, ok := impl.CheapestPlan(values, degree, c.setup, c.column)
				call := fmt.Sprintf("CheapestPlan(%v, %d, %d, %d)", values, degree, c.setup, c.column)
				list, _ := impl.PlanValues(cheapest)
				expectList(t, "the values of "+call, list, ok, values, true)
				cost := impl.PlanCost(cheapest, c.setup, c.column)
				for _, plan := range s.allPlans(degree) {
					if less := impl.PlanCost(plan, c.setup, c.column); less < cost {
						t.Errorf("%s costs %d; %v costs %d", call, cost, plan, less)
					}
				}
				if c.column == 0 && c.setup > 0 {
					expectNumber(t, "the length of "+call, len(cheapest), impl.FewestSegments(values, degree))
				}
			}
		}
	}
}

// The longest runs, and ones of which some were split, cost no less.
func TestGreedyIsNotCheaper(t *testing.T) {
	for _, values := range smallTables() {
		for degree := range 7 {
			for _, c := range someTariffs {
				greedy, _ := impl.GreedyPlan(values, degree)
				cheapest, _ := impl.CheapestPlan(values, degree, c.setup, c.column)
				if impl.PlanCost(greedy, c.setup, c.column) < impl.PlanCost(cheapest, c.setup, c.column) {
					t.Errorf("CheapestPlan(%v, %d, %d, %d) costs more than the greedy plan", values, degree, c.setup, c.column)
				}
				if c.setup+c.column == 0 {
					expectPlan(t, fmt.Sprintf("CheapestPlan(%v, %d, 0, 0)", values, degree), cheapest, true, greedy)
				}
			}
		}
	}
}

func TestNoCheapestPlan(t *testing.T) {
	none := func(values []int, degree, setup, column int) {
		t.Helper()
		plan, ok := impl.CheapestPlan(values, degree, setup, column)
		expectNoPlan(t, fmt.Sprintf("CheapestPlan(%v, %d, %d, %d)", values, degree, setup, column), plan, ok)
	}
	for _, values := range notSmallTables() {
		for degree := -1; degree <= 7; degree++ {
			none(values, degree, 5, 1)
			none(values, degree, 0, 0)
		}
	}
	for _, values := range smallTables() {
		if len(values) > 9 {
			continue
		}
		for _, degree := range notDegrees {
			none(values, degree, 5, 1)
			none(values, degree, 1001, -1)
		}
		for _, cost := range notCosts {
			for degree := range 7 {
				none(values, degree, cost, 1)
				none(values, degree, 1, cost)
				none(values, degree, cost, 1000)
				none(values, degree, 0, cost)
				none(values, degree, cost, cost)
			}
		}
	}
}
