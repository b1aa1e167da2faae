package tests

import (
	"fmt"
	"runtime"
	"slices"
	"sync"
	"testing"
	"testing/synctest"

	"loop.example/differenceengine/impl"
)

// A planMemory is a copy of a plan with all the memory that it is in: past the
// number of the segments, and past the length of each polynomial, are sentinels.
type planMemory struct {
	plan     []impl.Segment
	segments []impl.Segment
	polys    [][]int
}

func guardedPlan(plan []impl.Segment) planMemory {
	m := planMemory{segments: slices.Repeat([]impl.Segment{{Count: sentinel}}, len(plan)+8)}
	for i, segment := range plan {
		p, memory := guarded(segment.Poly)
		m.segments[i] = impl.Segment{Count: segment.Count, Poly: p}
		m.polys = append(m.polys, memory)
	}
	m.plan = m.segments[:len(plan)]
	return m
}

// content returns all that is in the memory.
func (m planMemory) content() string { return fmt.Sprint(m.segments, m.polys) }

// scribblePlan writes over the segments and the polynomials of a plan, their
// unused capacity included.
func scribblePlan(plan []impl.Segment) {
	for _, segment := range plan {
		scribble(segment.Poly, 999)
	}
	plan = plan[:cap(plan)]
	for i := range plan {
		plan[i] = impl.Segment{Count: 999, Poly: []int{999}}
	}
}

// A planProbe is a call of a function of the chapter with a plan and a table; it
// returns the plan and the numbers of the result.
type planProbe struct {
	name string
	call func(plan []impl.Segment, values []int) ([]impl.Segment, []int)
}

// planProbes has all functions of the chapter to which plans or tables are
// passed, with numbers for which a result could be the argument itself, and
// others.
func planProbes() []planProbe {
	probes := []planProbe{
		{"PlanValid", func(plan []impl.Segment, _ []int) ([]impl.Segment, []int) { impl.PlanValid(plan); return nil, nil }},
		{"PlanLength", func(plan []impl.Segment, _ []int) ([]impl.Segment, []int) { return nil, []int{impl.PlanLength(plan)} }},
		{"PlanValues", func(plan []impl.Segment, _ []int) ([]impl.Segment, []int) { return justNumbers(impl.PlanValues(plan)) }},
		{"PlanDegree", func(plan []impl.Segment, _ []int) ([]impl.Segment, []int) { return nil, []int{impl.PlanDegree(plan)} }},
		{"FormatPlan", func(plan []impl.Segment, _ []int) ([]impl.Segment, []int) {
			return justPlan(impl.ParsePlan(impl.FormatPlan(plan)))
		}},
		{"PlanCost", func(plan []impl.Segment, _ []int) ([]impl.Segment, []int) {
			return nil, []int{impl.PlanCost(plan, 7, 3)}
		}},
	}
	for _, n := range []int{-1, 0, 1, 2, 6, 7} {
		probes = append(probes,
			planProbe{fmt.Sprintf("LongestRun, %d", n), func(_ []impl.Segment, values []int) ([]impl.Segment, []int) {
				return nil, []int{impl.LongestRun(values, n, 2), impl.LongestRun(values, 0, n), impl.FewestSegments(values, n)}
			}},
			planProbe{fmt.Sprintf("SegmentOf at %d", n), func(_ []impl.Segment, values []int) ([]impl.Segment, []int) {
				return justSegment(impl.SegmentOf(values, n, 1, 0))
			}},
			planProbe{fmt.Sprintf("SegmentOf, %d", n), func(_ []impl.Segment, values []int) ([]impl.Segment, []int) {
				return justSegment(impl.SegmentOf(values, 0, n, 6))
			}},
			planProbe{fmt.Sprintf("GreedyPlan, %d", n), func(_ []impl.Segment, values []int) ([]impl.Segment, []int) {
				return justPlan(impl.GreedyPlan(values, n))
			}},
			planProbe{fmt.Sprintf("CheapestPlan, %d", n), func(_ []impl.Segment, values []int) ([]impl.Segment, []int) {
				return justPlan(impl.CheapestPlan(values, n, 1, 1))
			}},
			planProbe{fmt.Sprintf("SplitSegment, %d", n), func(plan []impl.Segment, _ []int) ([]impl.Segment, []int) {
				return justPlan(impl.SplitSegment(plan, n, 1))
			}},
			planProbe{fmt.Sprintf("SplitSegment at %d", n), func(plan []impl.Segment, _ []int) ([]impl.Segment, []int) {
				return justPlan(impl.SplitSegment(plan, len(plan)-1, n))
			}},
			planProbe{fmt.Sprintf("JoinSegments, %d", n), func(plan []impl.Segment, _ []int) ([]impl.Segment, []int) {
				return justPlan(impl.JoinSegments(plan, n, 6))
			}},
			planProbe{fmt.Sprintf("RunPlan, %d", n), func(plan []impl.Segment, _ []int) ([]impl.Segment, []int) {
				return justNumbers(impl.RunPlan(plan, n))
			}},
			planProbe{fmt.Sprintf("PlanWheels, %d", n), func(plan []impl.Segment, _ []int) ([]impl.Segment, []int) {
				return nil, []int{impl.PlanWheels(plan, n)}
			}},
		)
	}
	return probes
}

func justNumbers(list []int, _ bool) ([]impl.Segment, []int) { return nil, list }

func justPlan(plan []impl.Segment, _ bool) ([]impl.Segment, []int) { return plan, nil }

func justSegment(segment impl.Segment, _ bool) ([]impl.Segment, []int) {
	return []impl.Segment{segment}, nil
}

// memoryPlans are plans in which segments can be joined, others, and segments
// that are no plan.
func memoryPlans() [][]impl.Segment {
	plans := [][]impl.Segment{nil, {}, planFrom([]int{4}, 2), planFrom([]int{4, 0, 0}, 2, 1, 2), planFrom([]int{0, 0}, 1, 1, 1, 1, 1, 1, 1, 1), planFrom([]int{1}, 61), planFrom([]int{100001}, 2, 2), planFrom(nil, 1)}
	plans = append(plans, []impl.Segment{{Count: 1, Poly: []int{0, 1, 2}}, {Count: 3, Poly: []int{1, 3, 2}}, {Count: 2, Poly: []int{16, 9, 2}}, {Count: 2, Poly: []int{10, 1}}}, []impl.Segment{{Count: 3, Poly: []int{1, 2, 3, 4, 5, 6, 7}}, {Count: 3, Poly: []int{5}}, {Count: 0, Poly: []int{5}}})
	all := samplePlans()
	return append(plans, all[0], all[1], all[2], all[7], all[8], all[len(all)-1], all[len(all)-2])
}

// memoryTables are small tables, and ones that are not small.
func memoryTables() [][]int {
	tables := [][]int{{0, 1, 4, 9, 10, 11}, {5, 5, 5, 5, 0, 0, 0, 0}, {0, 1, 0, 0, 1, 1}, {1501, 1}}
	return append(tables, memoryLists()...)
}

func TestPlansStay(t *testing.T) {
	for _, probe := range planProbes() {
		for _, segments := range memoryPlans() {
			for _, values := range memoryTables() {
				argument := guardedPlan(segments)
				table, tableMemory := guarded(values)
				before, tableBefore := argument.content(), slices.Clone(tableMemory)
				plan, numbers := probe.call(argument.plan, table)
				if argument.content() != before || !slices.Equal(tableMemory, tableBefore) {
					t.Fatalf("%s of %v and %v changes its arguments or memory beyond them", probe.name, segments, values)
				}
				scribblePlan(plan)
				scribble(numbers, 999)
				if argument.content() != before || !slices.Equal(tableMemory, tableBefore) {
					t.Fatalf("a result of %s of %v and %v shares memory with an argument", probe.name, segments, values)
				}
			}
		}
	}
}

func TestPlansAreNew(t *testing.T) {
	for _, probe := range planProbes() {
		for _, segments := range memoryPlans() {
			for _, values := range memoryTables() {
				plan, numbers := probe.call(segments, values)
				before := fmt.Sprint(plan, numbers)
				otherPlan, otherNumbers := probe.call(segments, values)
				scribblePlan(otherPlan)
				scribble(otherNumbers, 999)
				thirdPlan, thirdNumbers := probe.call(segments, values)
				if fmt.Sprint(plan, numbers) != before || fmt.Sprint(thirdPlan, thirdNumbers) != before {
					t.Fatalf("results of %s of %v and %v share memory, or state is kept", probe.name, segments, values)
				}
			}
		}
	}
}

// No polynomial of a plan reaches into another one of the same plan, even if the
// argument's polynomials are all in the same memory.
func TestPolysOfPlansAreSeparate(t *testing.T) {
	row := []int{0, 0, 0, 0, 0, 0}
	shared := []impl.Segment{{Count: 2, Poly: row[:3]}, {Count: 2, Poly: row[:2]}, {Count: 3, Poly: row[:3]}, {Count: 2, Poly: row[2:4]}}
	for _, probe := range planProbes() {
		for _, segments := range append(memoryPlans(), shared) {
			for _, values := range memoryTables() {
				plan, _ := probe.call(segments, values)
				for i, segment := range plan {
					scribble(segment.Poly, -1-i)
				}
				for i, segment := range plan {
					for _, n := range segment.Poly[:cap(segment.Poly)] {
						if n != -1-i {
							t.Fatalf("two polynomials of %s of %v and %v share memory", probe.name, segments, values)
						}
					}
				}
			}
		}
	}
	if slices.ContainsFunc(row, func(n int) bool { return n != 0 }) {
		t.Error("a result shares memory with a polynomial of the argument")
	}
}

func TestComparedEnginesStay(t *testing.T) {
	for _, a := range memoryEngines() {
		for _, b := range memoryEngines() {
			first, firstMemory := guardedEngine(a)
			second, secondMemory := guardedEngine(b)
			firstBefore, secondBefore := slices.Clone(firstMemory), slices.Clone(secondMemory)
			if impl.ChangeWheels(first, second) != impl.ChangeWheels(a, b) || !slices.Equal(firstMemory, firstBefore) || !slices.Equal(secondMemory, secondBefore) {
				t.Fatalf("ChangeWheels(%s, %s) changes an argument, or keeps state", textOf(a), textOf(b))
			}
		}
	}
}

// allOfPlan returns the results of all functions of the chapter for a plan and
// its table.
func allOfPlan(plan []impl.Segment) string {
	values, _ := impl.PlanValues(plan)
	text := ""
	for _, probe := range planProbes() {
		made, numbers := probe.call(plan, values)
		text += fmt.Sprintln(probe.name, made, numbers)
	}
	return text
}

// A result is the same whether goroutines run one at a time or many at once,
// and while many calls for the same plan are under way.
func TestSchedulingIsNotSeenInPlans(t *testing.T) {
	before := runtime.GOMAXPROCS(1)
	defer runtime.GOMAXPROCS(before)
	plans := memoryPlans()
	wanted := []string{}
	for _, plan := range plans {
		wanted = append(wanted, allOfPlan(plan))
	}
	for _, processors := range []int{1, 2, 8, 32} {
		runtime.GOMAXPROCS(processors)
		var callers sync.WaitGroup
		for i, plan := range plans {
			for range 3 {
				callers.Go(func() {
					if allOfPlan(plan) != wanted[i] {
						t.Errorf("with %d processors, a result for %v is another one", processors, plan)
					}
				})
			}
		}
		callers.Wait()
	}
}

// A goroutine that waits for ever after a call would be a deadlock here.
func TestNoGoroutineStaysAfterPlans(t *testing.T) {
	for _, plan := range memoryPlans() {
		synctest.Test(t, func(t *testing.T) { allOfPlan(plan) })
	}
}

// A map is ranged over in another order each time; the cheapest plan is always
// the same, also where there are several.
func TestOrderIsNotSeenInPlans(t *testing.T) {
	for _, values := range [][]int{{0, 1, 4, 9, 10, 11}, {0, 1, 0, 0, 1, 1, 0, 1}, slices.Repeat([]int{0, 1, 3}, 20), slices.Repeat([]int{1500, -1500}, 30)} {
		s := piecesOf(values)
		for degree := range 7 {
			for _, c := range []tariff{{0, 0}, {0, 1}, {1, 1}, {1, 0}} {
				want := s.cheapest(degree, c)
				for range 20 {
					expectCheapest(t, values, degree, c, want)
				}
			}
		}
	}
}
