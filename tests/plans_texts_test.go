package tests

import (
	"fmt"
	"slices"
	"strings"
	"testing"

	"loop.example/differenceengine/impl"
)

func TestPlanValid(t *testing.T) {
	for _, plan := range samplePlans() {
		if !impl.PlanValid(plan) {
			t.Errorf("PlanValid(%v) = false", plan)
		}
	}
	for _, plan := range notPlans() {
		if impl.PlanValid(plan) {
			t.Errorf("PlanValid(%v) = true", plan)
		}
	}
}

// A segment is in a plan as long as its greatest value is that of a table.
func TestPlanBounds(t *testing.T) {
	negative := []int{}
	for _, n := range reachingBound {
		negative = append(negative, -n)
	}
	for _, p := range [][]int{reachingBound, negative} {
		for count := 1; count <= 60; count++ {
			if got := impl.PlanValid(planFrom(p, count)); got != (count <= 41) {
				t.Errorf("PlanValid of %v, %d times, = %v", p, count, got)
			}
		}
		further := slices.Clone(p)
		further[0] += further[1] / 100000
		if !impl.PlanValid(planFrom(further, 40)) || impl.PlanValid(planFrom(further, 41)) {
			t.Errorf("PlanValid of %v is wrong", further)
		}
	}
	for total := 1; total <= 70; total++ {
		for first := 1; first < total; first += 7 {
			if got := impl.PlanValid(planFrom([]int{2, 0}, first, total-first)); got != (total <= 60) {
				t.Errorf("PlanValid of %d and %d entries = %v", first, total-first, got)
			}
		}
		if got := impl.PlanValid(planFrom([]int{2}, slices.Repeat([]int{1}, total)...)); got != (total <= 60) {
			t.Errorf("PlanValid of %d segments = %v", total, got)
		}
	}
}

// expectPlanNumbers fails unless the length, the degree and the values of
// segments are the wanted ones.
func expectPlanNumbers(t *testing.T, plan []impl.Segment, length, degree int, values []int, ok bool) {
	t.Helper()
	expectNumber(t, fmt.Sprintf("PlanLength(%v)", plan), impl.PlanLength(plan), length)
	expectNumber(t, fmt.Sprintf("PlanDegree(%v)", plan), impl.PlanDegree(plan), degree)
	got, gotOK := impl.PlanValues(plan)
	expectList(t, fmt.Sprintf("PlanValues(%v)", plan), got, gotOK, values, ok)
}

func TestPlanNumbers(t *testing.T) {
	for _, plan := range samplePlans() {
		length, degree, values := 0, -1, []int{}
		for _, segment := range plan {
			length += segment.Count
			values = append(values, rowFrom(segment.Poly, 0, segment.Count)...)
			for k, n := range segment.Poly {
				if n != 0 {
					degree = max(degree, k)
				}
			}
		}
		expectPlanNumbers(t, plan, length, degree, values, true)
	}
	for _, plan := range notPlans() {
		expectPlanNumbers(t, plan, -1, -2, nil, false)
	}
}

func TestKnownPlanNumbers(t *testing.T) {
	expectPlanNumbers(t, []impl.Segment{{Count: 4, Poly: []int{0, 1, 2}}, {Count: 2, Poly: []int{10, 1}}}, 6, 2, []int{0, 1, 4, 9, 10, 11}, true)
	expectPlanNumbers(t, []impl.Segment{{Count: 2, Poly: []int{10, 1}}, {Count: 4, Poly: []int{0, 1, 2, 0}}}, 6, 2, []int{10, 11, 0, 1, 4, 9}, true)
	expectPlanNumbers(t, planFrom([]int{0, 0, 0}, 1, 2), 3, -1, []int{0, 0, 0}, true)
	expectPlanNumbers(t, planFrom([]int{7, 0, 0}, 2), 2, 0, []int{7, 7}, true)
	expectPlanNumbers(t, []impl.Segment{{Count: 1, Poly: []int{0}}, {Count: 1, Poly: []int{-3}}}, 2, 0, []int{0, -3}, true)
	// The differences of a segment may go further than its entries.
	expectPlanNumbers(t, planFrom([]int{1, 2, 3, 4, 5, 6, 7}, 1), 1, 6, []int{1}, true)
	expectPlanNumbers(t, planFrom([]int{1}, 60), 60, 0, slices.Repeat([]int{1}, 60), true)
	expectPlanNumbers(t, planFrom([]int{1}, 61), -1, -2, nil, false)
	expectPlanNumbers(t, nil, -1, -2, nil, false)
}

func TestPlanTexts(t *testing.T) {
	for _, plan := range samplePlans() {
		text := planText(plan)
		expectText(t, fmt.Sprintf("FormatPlan(%v)", plan), impl.FormatPlan(plan), true, text, true)
		got, ok := impl.ParsePlan(text)
		expectPlan(t, fmt.Sprintf("ParsePlan(%q)", text), got, ok, plan)
	}
	for _, plan := range notPlans() {
		expectText(t, fmt.Sprintf("FormatPlan(%v)", plan), impl.FormatPlan(plan), true, "", true)
		got, ok := impl.ParsePlan(planText(plan))
		expectNoPlan(t, fmt.Sprintf("ParsePlan(%q)", planText(plan)), got, ok)
	}
}

func TestKnownPlanTexts(t *testing.T) {
	for text, want := range map[string][]impl.Segment{
		"4:0 1 2/2:10 1": {{Count: 4, Poly: []int{0, 1, 2}}, {Count: 2, Poly: []int{10, 1}}}, "1:0": planFrom([]int{0}, 1), "60:0": planFrom([]int{0}, 60), "10:-5 0 0": planFrom([]int{-5, 0, 0}, 10), "1:100000/59:-100000": {{Count: 1, Poly: []int{100000}}, {Count: 59, Poly: []int{-100000}}},
		"1:0 0 0 0 0 0 0/1:1 2 3 4 5 6 7": {{Count: 1, Poly: make([]int, 7)}, {Count: 1, Poly: []int{1, 2, 3, 4, 5, 6, 7}}}, "30:1/30:1": planFrom([]int{1}, 30, 30), "41:320 100000 10256 100000": planFrom(reachingBound, 41),
	} {
		got, ok := impl.ParsePlan(text)
		expectPlan(t, fmt.Sprintf("ParsePlan(%q)", text), got, ok, want)
		expectText(t, fmt.Sprintf("FormatPlan(%v)", want), impl.FormatPlan(want), true, text, true)
	}
	most := strings.Repeat("1:-9/", 59) + "1:-9"
	got, ok := impl.ParsePlan(most)
	expectPlan(t, "ParsePlan of 60 segments", got, ok, planFrom([]int{-9}, slices.Repeat([]int{1}, 60)...))
}

func TestNoPlanTexts(t *testing.T) {
	texts := []string{
		"", " ", "-", "0", "4", ":", "::", "/", "//", ":/:", "4:", ":1", "4:1/", "/4:1", "4:1//4:1", "4:1/4", "4:1/4:", "4:1/:1", "4/1:1", "4:1:", "4:1:1", "4::1", "4:/1", "4:1/4:1/", "x:1", "4:x", "4:1 x", "x",
		"0:1", "00:1", "-1:1", "-0:1", "61:1", "100:1", "04:1", "+4:1", "4:01", "4:+1", "4:-0", "4:--1", "4:1-", "4.0:1", "4:1.0", "4:1e3", "0x4:1", "4:0x1", "4:1_0", "4:0 01", "4:0 +1", "4:0 -0", "4:00",
		" 4:1", "4:1 ", "4 :1", "4: 1", "4:1  2", "4:1\t2", "4:1,2", "4:1 /4:1", "4:1/ 4:1", "4:1 2 /2:1", "4:1\n", "\n4:1", "4:1\n/4:1", "4:1\x00", "\x00", "\xff", "4:\xff", "4:1/\xff:1", "4:\u0661", "\u0664:1", "4;1", "4=1", "4:1;4:1", "4:1|4:1", "(4:1)", "4:[1]", "4:1\\4:1",
		"4:100001", "4:-100001", "4:0 0 100001", "4:1 2 3 4 5 6 7 8", "30:1/31:1", "60:1/1:1", "1:1/60:1", "20:1/20:1/21:1", "42:320 100000 10256 100000", "41:321 100000 10256 100000", "60:0 0 0 0 0 0 100000", "1:1/60:0 0 0 0 0 0 -100000",
		"4:9223372036854775807", "4:9223372036854775808", "9223372036854775807:1", "9223372036854775808:1", "18446744073709551620:1", "4:18446744073709551617", "-9223372036854775808:1", "4:-9223372036854775808", "-18446744073709551612:1",
		strings.Repeat("9", 1000) + ":1", "4:" + strings.Repeat("9", 1000), strings.Repeat("/", 1000), strings.Repeat("1:1/", 1000), "4:" + strings.Repeat("1 ", 1000), strings.Repeat("4:1", 1000), strings.Repeat("1:1/", 60) + "1:1", strings.Repeat("1:1/", 60),
	}
	for _, text := range texts {
		got, ok := impl.ParsePlan(text)
		expectNoPlan(t, fmt.Sprintf("ParsePlan(%q)", text), got, ok)
	}
}

// A byte that is put in, left out or changed makes of the text of a plan that of
// another plan, or of none; what is read is always formatted as the text.
func TestChangedPlanTexts(t *testing.T) {
	read := 0
	for _, text := range []string{"4:0 1 2/2:10 1", "1:-5/59:7", "60:0"} {
		for i := range len(text) + 1 {
			for _, c := range []string{"", "0", "1", "9", "-", "+", ":", "/", " ", "_", ".", "\x00"} {
				for left := range min(2, len(text)-i) + 1 {
					changed := text[:i] + c + text[i+left:]
					got, ok := impl.ParsePlan(changed)
					if ok != isPlan(got) || ok && planText(got) != changed || !ok && len(got) != 0 {
						t.Errorf("ParsePlan(%q) = %v, %v", changed, got, ok)
					}
					if ok {
						read++
					}
				}
			}
		}
	}
	if read < 50 {
		t.Errorf("only %d texts were those of plans", read)
	}
}
