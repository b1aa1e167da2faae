package tests

import (
	"fmt"
	"slices"
	"strings"
	"testing"

	"loop.example/differenceengine/impl"
)

// canBeSetUp reports whether all differences have a column of a width.
func canBeSetUp(plan []impl.Segment, width int) bool {
	for _, segment := range plan {
		for _, n := range segment.Poly {
			if 2*n >= tens(width) || 2*n < -tens(width) {
				return false
			}
		}
	}
	return true
}

// printedBy returns the values of a plan as columns of a width show them.
func printedBy(plan []impl.Segment, width int) []int {
	results := []int{}
	for _, segment := range plan {
		for _, value := range rowFrom(segment.Poly, 0, segment.Count) {
			results = append(results, standsFor(modulo(value, tens(width)), width))
		}
	}
	return results
}

func expectPrinted(t *testing.T, plan []impl.Segment, width int, want []int, wantOK bool) {
	t.Helper()
	got, ok := impl.RunPlan(plan, width)
	expectList(t, fmt.Sprintf("RunPlan(%v, %d)", plan, width), got, ok, want, wantOK)
}

func TestRunPlan(t *testing.T) {
	for _, plan := range samplePlans() {
		for width := 1; width <= 12; width++ {
			if canBeSetUp(plan, width) {
				expectPrinted(t, plan, width, printedBy(plan, width), true)
			} else {
				expectPrinted(t, plan, width, nil, false)
			}
		}
		// All values of a plan fit in ten wheels, as they are those of a table.
		values, _ := impl.PlanValues(plan)
		expectPrinted(t, plan, 10, values, true)
	}
}

func TestKnownRunsOfPlans(t *testing.T) {
	for _, c := range []struct {
		plan  string
		width int
		want  []int
	}{
		{"4:0 1 2/2:10 1", 3, []int{0, 1, 4, 9, 10, 11}}, {"4:0 1 2/2:10 1", 2, []int{0, 1, 4, 9, 10, 11}}, {"4:0 1 2/2:10 1", 1, nil}, {"4:0 1 2/2:4 1", 1, []int{0, 1, 4, -1, 4, -5}}, {"2:4/1:-5", 1, []int{4, 4, -5}}, {"2:4/1:5", 1, nil}, {"2:-6/1:0", 1, nil},
		{"1:0 0 5", 1, nil}, {"1:0 0 -5", 1, []int{0}}, {"3:49999 1", 5, []int{49999, -50000, -49999}}, {"1:50000", 5, nil}, {"1:-50000", 5, []int{-50000}}, {"1:50000", 6, []int{50000}}, {"1:100000", 6, []int{100000}},
	} {
		plan, _ := impl.ParsePlan(c.plan)
		expectPrinted(t, plan, c.width, c.want, c.want != nil)
	}
}

// Engines print the table of which a plan was made.
func TestPlansArePrinted(t *testing.T) {
	for _, values := range slices.Concat(shortTables()[:200], smallTables()) {
		for degree := range 7 {
			greedy, _ := impl.GreedyPlan(values, degree)
			expectPrinted(t, greedy, 6, values, true)
			cheapest, _ := impl.CheapestPlan(values, degree, 3, 2)
			expectPrinted(t, cheapest, 12, values, true)
		}
	}
}

// changedDigits returns an engine in which some wheels show another digit.
func changedDigits(e impl.Engine, count int, throw func(least, most int) int) impl.Engine {
	columns, width := slices.Clone(e.Columns), len(e.Columns[0])
	places := []int{}
	for len(places) < count {
		if place := throw(0, len(columns)*width-1); !slices.Contains(places, place) {
			places = append(places, place)
			digits := []byte(columns[place/width])
			digits[place%width] = byte('0' + (int(digits[place%width]-'0')+throw(1, 9))%10)
			columns[place/width] = string(digits)
		}
	}
	return engineOf(columns...)
}

func expectChanges(t *testing.T, a, b impl.Engine, want int) {
	t.Helper()
	expectNumber(t, fmt.Sprintf("ChangeWheels(%s, %s)", textOf(a), textOf(b)), impl.ChangeWheels(a, b), want)
	expectNumber(t, fmt.Sprintf("ChangeWheels(%s, %s)", textOf(b), textOf(a)), impl.ChangeWheels(b, a), want)
}

func TestChangeWheels(t *testing.T) {
	throw := dice(11)
	for _, e := range sampleEngines() {
		wheels := len(e.Columns) * len(e.Columns[0])
		for _, count := range []int{0, 1, 2, throw(0, wheels), wheels - 1, wheels} {
			if count <= wheels {
				expectChanges(t, e, changedDigits(e, count, throw), count)
			}
		}
	}
	for count := 1; count <= 7; count++ {
		for width := 1; width <= 12; width++ {
			zeros, nines := slices.Repeat([]string{strings.Repeat("0", width)}, count), slices.Repeat([]string{strings.Repeat("9", width)}, count)
			expectChanges(t, engineOf(zeros...), engineOf(nines...), count*width)
			for place := range count {
				for wheel := range width {
					changed := slices.Clone(zeros)
					changed[place] = strings.Repeat("0", wheel) + "4" + strings.Repeat("0", width-wheel-1)
					expectChanges(t, engineOf(zeros...), engineOf(changed...), 1)
				}
			}
		}
	}
}

func TestKnownChanges(t *testing.T) {
	expectChanges(t, engineOf("016", "009", "002"), engineOf("010", "001", "000"), 3)
	expectChanges(t, engineOf("9"), engineOf("0"), 1)
	expectChanges(t, engineOf("0099", "9900"), engineOf("9900", "0099"), 8)
	expectChanges(t, engineOf("12", "34"), engineOf("13", "24"), 2)
	expectChanges(t, engineOf("123456789012"), engineOf("123456789012"), 0)
}

func TestNoChanges(t *testing.T) {
	for _, e := range notEngines() {
		expectChanges(t, e, e, -1)
		for count := range 8 {
			expectChanges(t, e, engineOf(slices.Repeat([]string{"0012"}, count)...), -1)
		}
		if len(e.Columns) > 0 && len(e.Columns[0]) < 13 {
			expectChanges(t, e, engineOf(slices.Repeat([]string{strings.Repeat("0", len(e.Columns[0]))}, len(e.Columns))...), -1)
		}
	}
	for count := 1; count <= 7; count++ {
		for width := 1; width <= 12; width++ {
			e := engineShowing(make([]int, count), width)
			for other := 1; other <= 12; other++ {
				if other != width {
					expectChanges(t, e, engineShowing(make([]int, count), other), -1)
				}
				if other != count && other <= 7 {
					expectChanges(t, e, engineShowing(make([]int, other), width), -1)
				}
			}
		}
	}
	// As many wheels, and as many signs, in other columns.
	expectChanges(t, engineOf("12", "34", "56"), engineOf("123", "456"), -1)
	expectChanges(t, engineOf("0012"), engineOf("00", "12"), -1)
	expectChanges(t, engineOf("123"), engineOf("1", "3"), -1)
	expectChanges(t, engineOf("7"), engineOf("7", "7"), -1)
}

// wheelsSet returns what PlanWheels is to return.
func wheelsSet(plan []impl.Segment, width int) int {
	if !canBeSetUp(plan, width) {
		return -1
	}
	columns := 0
	for _, segment := range plan {
		columns = max(columns, len(segment.Poly))
	}
	engines := []impl.Engine{}
	for _, segment := range plan {
		numbers := make([]int, columns)
		copy(numbers, segment.Poly)
		engines = append(engines, engineShowing(numbers, width))
	}
	set := 0
	for i := 1; i < len(plan); i++ {
		before, after := engineText(turnedEngine(engines[i-1], plan[i-1].Count)), engineText(engines[i])
		for place := range before {
			if before[place] != after[place] {
				set++
			}
		}
	}
	return set
}

func expectWheels(t *testing.T, plan []impl.Segment, width, want int) {
	t.Helper()
	expectNumber(t, fmt.Sprintf("PlanWheels(%v, %d)", plan, width), impl.PlanWheels(plan, width), want)
}

func TestPlanWheels(t *testing.T) {
	for _, plan := range samplePlans() {
		for width := 1; width <= 12; width++ {
			expectWheels(t, plan, width, wheelsSet(plan, width))
		}
	}
	for _, values := range smallTables() {
		for degree := range 7 {
			plan, _ := impl.GreedyPlan(values, degree)
			expectWheels(t, plan, 5+degree, wheelsSet(plan, 5+degree))
		}
	}
}

func TestKnownPlanWheels(t *testing.T) {
	for _, c := range []struct {
		plan        string
		width, want int
	}{
		{"4:0 1 2/2:10 1", 3, 3}, {"4:0 1 2/2:10 1", 2, 3}, {"4:0 1 2/2:10 1", 12, 3}, {"4:0 1 2/2:10 1", 1, -1}, {"1:0 1 2/3:1 3 2/2:10 1", 3, 3}, {"2:10 1/4:0 1 2", 3, 3},
		// One segment is set up, but not between others.
		{"60:0 1 2", 4, 0}, {"60:0 1 2", 1, 0}, {"5:7", 1, -1}, {"5:7", 2, 0}, {"1:0 0 5", 1, -1},
		// The same engine goes on.
		{"30:5/30:5", 3, 0}, {"3:0 1/3:3 1/3:6 1", 2, 0}, {"3:0 1/3:3 1/3:6 1 0 0", 2, 0}, {"2:0 1/2:2 1/2:4 2", 2, 1}, {"1:0/1:1/1:3", 1, 2}, {"1:0/1:1/1:5", 1, -1}, {"1:5/1:1/1:0", 1, -1}, {"1:0/1:-1", 3, 3}, {"1:0 0 0 0 0 0 1/1:0", 2, 2}, {"1:0/1:0 0 0 0 0 0 -1", 2, 2},
		// The wheels go around.
		{"3:3 1/1:-4", 1, 1}, {"3:3 1/1:-4 1", 1, 0}, {"3:3 1/1:4 1", 1, 1}, {"2:49 1/1:-49 1", 2, 0},
	} {
		plan, _ := impl.ParsePlan(c.plan)
		expectWheels(t, plan, c.width, c.want)
	}
}

func TestNoRunPlan(t *testing.T) {
	for _, plan := range notPlans() {
		for _, width := range []int{1, 6, 12} {
			expectPrinted(t, plan, width, nil, false)
			expectWheels(t, plan, width, -1)
		}
	}
	for _, plan := range samplePlans() {
		for _, width := range notWidths {
			expectPrinted(t, plan, width, nil, false)
			expectWheels(t, plan, width, -1)
		}
	}
}
