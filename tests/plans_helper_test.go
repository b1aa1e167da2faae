package tests

import (
	"fmt"
	"slices"
	"strconv"
	"strings"
	"testing"

	"loop.example/differenceengine/impl"
)

// The helpers here follow the definitions of the document: they look at all
// parts of a table, and at all plans of a short one.

// A pieces tells of all parts of a small table whether they have a run.
type pieces struct {
	values []int
	// zero has, for each degree, whether the differences that are taken
	// degree + 1 times are 0, by the first of their entries.
	zero [7][]bool
}

func piecesOf(values []int) pieces {
	s := pieces{values: values}
	for degree := range 7 {
		for at := 0; at+degree+1 < len(values); at++ {
			s.zero[degree] = append(s.zero[degree], definedDifference(values, degree+1, at) == 0)
		}
	}
	return s
}

func (s pieces) hasRun(from, count, degree int) bool {
	for at := from; at+degree+1 < from+count; at++ {
		if !s.zero[degree][at] {
			return false
		}
	}
	return true
}

// longest tries all numbers of entries, the greatest one first.
func (s pieces) longest(from, degree int) int {
	count := len(s.values) - from
	for !s.hasRun(from, count, degree) {
		count--
	}
	return count
}

// segment returns the segment of entries that have a run of any degree.
func (s pieces) segment(from, count int) impl.Segment {
	degree := 0
	for !s.hasRun(from, count, degree) {
		degree++
	}
	segment := impl.Segment{Count: count}
	for k := range degree + 1 {
		segment.Poly = append(segment.Poly, definedDifference(s.values, k, from))
	}
	return segment
}

// plan returns the plan whose segments have the counts; false if the entries of
// one of them have no run.
func (s pieces) plan(counts []int, degree int) ([]impl.Segment, bool) {
	plan, from := []impl.Segment{}, 0
	for _, count := range counts {
		if !s.hasRun(from, count, degree) {
			return nil, false
		}
		plan = append(plan, s.segment(from, count))
		from += count
	}
	return plan, true
}

// greedy returns the plan of the longest runs.
func (s pieces) greedy(degree int) []impl.Segment {
	counts := []int{}
	for from := 0; from < len(s.values); from += counts[len(counts)-1] {
		counts = append(counts, s.longest(from, degree))
	}
	plan, _ := s.plan(counts, degree)
	return plan
}

// allCounts returns the counts of all plans that a table of a length could have.
func allCounts(length int) [][]int {
	all := [][]int{}
	for cuts := range 1 << (length - 1) {
		counts := []int{1}
		for i := range length - 1 {
			if cuts>>i&1 == 1 {
				counts = append(counts, 1)
			} else {
				counts[len(counts)-1]++
			}
		}
		all = append(all, counts)
	}
	return all
}

// allPlans returns all plans of a short table whose segments are runs.
func (s pieces) allPlans(degree int) [][]impl.Segment {
	plans := [][]impl.Segment{}
	for _, counts := range allCounts(len(s.values)) {
		if plan, ok := s.plan(counts, degree); ok {
			plans = append(plans, plan)
		}
	}
	return plans
}

func countsOf(plan []impl.Segment) []int {
	counts := []int{}
	for _, segment := range plan {
		counts = append(counts, segment.Count)
	}
	return counts
}

func costOf(plan []impl.Segment, setup, column int) int {
	cost := 0
	for _, segment := range plan {
		cost += setup
		for range segment.Poly {
			cost += column
		}
	}
	return cost
}

// cheapestOf returns the plan of some with the least cost, and of several, that
// with the longest segments.
func cheapestOf(plans [][]impl.Segment, setup, column int) []impl.Segment {
	best := plans[0]
	for _, plan := range plans {
		less := costOf(plan, setup, column) - costOf(best, setup, column)
		if less < 0 || less == 0 && slices.Compare(countsOf(plan), countsOf(best)) > 0 {
			best = plan
		}
	}
	return best
}

// shortTables are all short tables of a few numbers, and some others.
func shortTables() [][]int {
	tables := [][]int{{0, 1, 4, 9, 10, 11}, {5, 5, 5, 5, 0, 0, 0, 0}, {0, 1, 4, 9, 16, 25, 36, 0, 1, 4}, {1500, -1500, 1500, -1500, 1500, -1500, 1500, -1500}}
	for _, c := range []struct{ length, numbers int }{{1, 3}, {2, 3}, {3, 3}, {4, 3}, {5, 2}, {6, 2}, {7, 2}, {8, 2}} {
		all := 1
		for range c.length {
			all *= c.numbers
		}
		for index := range all {
			values := []int{}
			for range c.length {
				values = append(values, []int{0, 1, 3}[index%c.numbers])
				index /= c.numbers
			}
			tables = append(tables, values)
		}
	}
	throw := dice(8)
	for length := 4; length <= 10; length++ {
		for range 12 {
			tables = append(tables, walk(length, throw))
		}
	}
	return tables
}

// walk returns a table made of short parts with polynomials.
func walk(length int, throw func(least, most int) int) []int {
	values := []int{}
	for len(values) < length {
		p := []int{throw(-5, 5), throw(-2, 2), throw(-1, 1)}[:throw(1, 3)]
		values = append(values, rowFrom(p, 0, min(throw(1, 6), length-len(values)))...)
	}
	return values
}

// smallTables are small tables of several lengths: of parts of polynomials, of
// zeros, of anything, and at the bounds.
func smallTables() [][]int {
	tables := [][]int{{0}, {7}, {1500}, {-1500}, {0, 1}, {1500, -1500}, {0, 1, 4, 9, 10, 11}, {0, 0, 5}, {5, 0, 0}}
	throw := dice(9)
	for _, length := range []int{1, 2, 3, 5, 7, 8, 9, 12, 29, 30, 31, 59, 60} {
		mixed, bounds, late, coins := make([]int, length), make([]int, length), make([]int, length), make([]int, length)
		for i := range length {
			mixed[i], bounds[i], coins[i] = throw(-1500, 1500), 1500-3000*(i%2), throw(0, 1)
		}
		late[length-1] = 1
		tables = append(tables, mixed, bounds, late, coins, make([]int, length), walk(length, throw), walk(length, throw))
		for _, p := range [][]int{{-7, 25}, {0, 1, 1}, {900, -80, 3}, {0, 0, 0, 0, 0, 0, 1}} {
			if values := rowFrom(p, 0, length); isSmallTable(values) {
				tables = append(tables, values)
			}
		}
	}
	return tables
}

// isSmallTable reports what the document calls a small table.
func isSmallTable(values []int) bool {
	for _, n := range values {
		if n < -1500 || n > 1500 {
			return false
		}
	}
	return len(values) >= 1 && len(values) <= 60
}

// notSmallTables are slices that are no tables, or have an entry that is too
// great for a small one, in each place.
func notSmallTables() [][]int {
	lists := notTables()
	for _, length := range []int{1, 2, 6, 60} {
		for place := range length {
			for _, n := range []int{1501, -1501, 1000000000, -1000000000} {
				values := make([]int, length)
				values[place] = n
				lists = append(lists, values)
			}
		}
	}
	return lists
}

// notCosts are numbers that are not costs.
var notCosts = []int{-1, -2, -1000, 1001, 1002, 1000000, minInt, maxInt}

// isPlan reports what the document calls a plan.
func isPlan(plan []impl.Segment) bool {
	total := 0
	for _, segment := range plan {
		if segment.Count < 1 || segment.Count > 60 || !isPoly(segment.Poly) || !isTable(rowFrom(segment.Poly, 0, segment.Count)) {
			return false
		}
		total += segment.Count
	}
	return len(plan) >= 1 && total <= 60
}

// planFrom returns a plan with given counts and the same polynomial.
func planFrom(p []int, counts ...int) []impl.Segment {
	plan := []impl.Segment{}
	for _, count := range counts {
		plan = append(plan, impl.Segment{Count: count, Poly: slices.Clone(p)})
	}
	return plan
}

// reachingBound has the value 1000000000 at 40, and greater ones after it.
var reachingBound = []int{320, 100000, 10256, 100000}

// samplePlans are plans: of one segment and of several, of one entry and of as
// many as possible, with zeros at the ends of polynomials, with values and
// differences at the bounds.
func samplePlans() [][]impl.Segment {
	plans := [][]impl.Segment{planFrom([]int{0}, 1), planFrom([]int{0, 1, 2}, 60), planFrom([]int{5, 0}, slices.Repeat([]int{1}, 60)...), planFrom([]int{0, 0, 0}, 30, 30), planFrom([]int{-1, 2}, 59, 1), planFrom([]int{3, 1, 4}, 1, 59), planFrom(reachingBound, 41, 19)}
	plans = append(plans, []impl.Segment{{Count: 4, Poly: []int{0, 1, 2}}, {Count: 2, Poly: []int{10, 1}}}, []impl.Segment{{Count: 1, Poly: []int{-100000}}, {Count: 1, Poly: []int{100000}}, {Count: 3, Poly: []int{0, 0, 0, 0, 0, 0, 100000}}})
	throw := dice(10)
	for _, p := range samplePolys() {
		for _, count := range []int{1, 2, 3, 8, 20, 60} {
			if plan := planFrom(p, count); isPlan(plan) {
				plans = append(plans, plan)
			}
		}
	}
	singles := slices.Clone(plans)
	for range 60 {
		plan, total := []impl.Segment{}, 0
		for range throw(2, 6) {
			segment := singles[throw(0, len(singles)-1)][0]
			if total += segment.Count; total <= 60 {
				plan = append(plan, segment)
			}
		}
		if isPlan(plan) {
			plans = append(plans, plan)
		}
	}
	return plans
}

// notPlans are segments that are not a plan: none, or too many, or with one in
// any place that is in no plan.
func notPlans() [][]impl.Segment {
	plans := [][]impl.Segment{nil, {}, planFrom([]int{1}, 30, 31), planFrom([]int{1}, 31, 30), planFrom([]int{1}, 60, 1), planFrom([]int{1}, 1, 60), planFrom([]int{1}, 60, 60), planFrom([]int{1}, slices.Repeat([]int{1}, 61)...), planFrom([]int{1}, slices.Repeat([]int{1}, 1000)...), planFrom([]int{1}, 20, 20, 21)}
	wrong := []impl.Segment{{Count: 1}, {}, {Count: 42, Poly: reachingBound}, {Count: 60, Poly: reachingBound}, {Count: 41, Poly: []int{321, 100000, 10256, 100000}}, {Count: 41, Poly: []int{-321, -100000, -10256, -100000}}, {Count: 60, Poly: []int{0, 0, 0, 0, 0, 0, 100000}}, {Count: 60, Poly: []int{0, 0, 0, 0, 0, -100000}}}
	for _, count := range []int{0, -1, -59, 61, 62, 1000, minInt, minInt + 1, maxInt, maxInt - 1} {
		wrong = append(wrong, impl.Segment{Count: count, Poly: []int{0, 1, 2}})
	}
	for _, p := range notPolys() {
		wrong = append(wrong, impl.Segment{Count: 1, Poly: p})
	}
	for _, segment := range wrong {
		for place := range 3 {
			plan := planFrom([]int{3, -1}, 1, 2)
			plans = append(plans, slices.Insert(plan, place, segment))
		}
		plans = append(plans, []impl.Segment{segment})
	}
	// The sum of these is a small number, or would be one by wrapping around.
	return append(plans, planFrom([]int{1}, -1, 2), planFrom([]int{1}, 61, -1), planFrom([]int{1}, maxInt, maxInt, 3), planFrom([]int{1}, minInt, minInt, 3), planFrom([]int{1}, maxInt, minInt, 5))
}

// planText returns the text that any segments would have.
func planText(plan []impl.Segment) string {
	texts := []string{}
	for _, segment := range plan {
		text := strconv.Itoa(segment.Count) + ":"
		for k, n := range segment.Poly {
			if k > 0 {
				text += " "
			}
			text += strconv.Itoa(n)
		}
		texts = append(texts, text)
	}
	return strings.Join(texts, "/")
}

// expectPlan fails unless a call returned the wanted plan and true.
func expectPlan(t *testing.T, call string, got []impl.Segment, ok bool, want []impl.Segment) {
	t.Helper()
	if len(got) != len(want) || planText(got) != planText(want) || !ok {
		t.Errorf("%s = %v, %v; want %v", call, got, ok, want)
	}
}

// expectNoPlan fails unless a call returned an empty slice and false.
func expectNoPlan(t *testing.T, call string, got []impl.Segment, ok bool) {
	t.Helper()
	if len(got) != 0 || ok {
		t.Errorf("%s = %v, %v; want an empty slice and false", call, got, ok)
	}
}

func TestPlanLimits(t *testing.T) {
	const (
		small       = impl.MaxSmall
		cost        = impl.MaxCost
		degree      = impl.MaxDegree
		coefficient = impl.MaxCoefficient
		table       = impl.MaxTable
		entry       = impl.MaxEntry
		wheels      = impl.MaxWheels
	)
	expectNumbers(t, "the limits", []int{small, cost, degree, coefficient, table, entry, wheels}, []int{1500, 1000, 6, 100000, 60, 1000000000, 12})
}

// The samples have to be what they are said to be.
func TestSamplesOfPlans(t *testing.T) {
	for _, values := range slices.Concat(shortTables(), smallTables()) {
		if !isSmallTable(values) {
			t.Errorf("%v is no small table", values)
		}
	}
	for _, plan := range samplePlans() {
		if !isPlan(plan) {
			t.Errorf("%v is no plan", plan)
		}
	}
	for _, plan := range notPlans() {
		if isPlan(plan) {
			t.Errorf("%v is a plan", plan)
		}
	}
	expectNumber(t, "the value at the bound", definedValue(reachingBound, 40), 1000000000)
	expectNumber(t, "the number of plans of ten entries", len(allCounts(10)), 512)
	expectText(t, "the counts", fmt.Sprint(allCounts(3)), true, "[[3] [1 2] [2 1] [1 1 1]]", true)
}
