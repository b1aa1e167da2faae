package tests

import (
	"fmt"
	"slices"
	"strings"
	"testing"
	"testing/synctest"

	"loop.example/differenceengine/impl"
)

// A deskProbe is a call of a function of the chapter with a job whose polynomial
// is p, or with times p and a schedule q; it returns the lists and the text of the
// result.
type deskProbe struct {
	name string
	call func(p, q []int) ([][]int, string)
}

// deskCalls has all functions of the chapter to which lists are passed.
func deskCalls() []deskProbe {
	probes := []deskProbe{{"TimesValid", func(p, _ []int) ([][]int, string) { return nil, fmt.Sprint(impl.TimesValid(p)) }}}
	for _, l := range []impl.Layout{layoutOf(2, 2, 3), layoutOf(20, 6, 12), layoutOf(0, 1, 1)} {
		for _, n := range []int{0, 1, 60} {
			job := func(p []int) impl.Job { return jobOf(p, 1, n, 12, n%4, n%3, l) }
			named := func(name string) string { return fmt.Sprintf("%s with %d values on %v", name, n, l) }
			probes = append(probes,
				deskProbe{named("JobValid"), func(p, _ []int) ([][]int, string) { return nil, fmt.Sprint(impl.JobValid(job(p))) }},
				deskProbe{named("FormatJob"), func(p, _ []int) ([][]int, string) { return nil, impl.FormatJob(job(p)) }},
				deskProbe{named("ParseJob"), func(p, _ []int) ([][]int, string) {
					j, ok := impl.ParseJob(jobText(job(p)))
					return one(j.Poly, ok), fmt.Sprint(ok)
				}},
				deskProbe{named("JobTable"), func(p, _ []int) ([][]int, string) { return one(impl.JobTable(job(p))), "" }},
				deskProbe{named("JobSheet"), func(p, _ []int) ([][]int, string) { s, ok := impl.JobSheet(job(p)); return nil, fmt.Sprint(s, ok) }},
				deskProbe{named("JobTime"), func(p, _ []int) ([][]int, string) { return nil, fmt.Sprint(impl.JobTime(job(p))) }},
			)
		}
	}
	for engines := range 5 {
		named := func(name string) string { return fmt.Sprintf("%s for %d engines", name, engines) }
		probes = append(probes,
			deskProbe{named("SpanOf"), func(p, q []int) ([][]int, string) { return nil, fmt.Sprint(impl.SpanOf(p, q, engines)) }},
			deskProbe{named("SpanOf of the times themselves"), func(p, _ []int) ([][]int, string) { return nil, fmt.Sprint(impl.SpanOf(p, p, engines)) }},
			deskProbe{named("GreedySchedule"), func(p, _ []int) ([][]int, string) { return one(impl.GreedySchedule(p, engines), true), "" }},
			deskProbe{named("BestSchedule"), func(p, _ []int) ([][]int, string) { return one(impl.BestSchedule(p, engines), true), "" }},
			deskProbe{named("LeastSpan"), func(p, _ []int) ([][]int, string) { return nil, fmt.Sprint(impl.LeastSpan(p, engines)) }},
		)
	}
	return probes
}

// eachDeskLists calls see for lists that are times, schedules, polynomials, and
// none of these; for some of the times, the best schedule is equal to them.
func eachDeskLists(see func(p, q []int)) {
	for _, p := range append(memoryLists(), []int{0, 0, 1}, []int{0, 1}, []int{0, 0, 0, 0, 0, 0, 0, 0}, []int{3, 3, 2, 2, 2}, []int{9, 8, 7, 6, 5, 4, 3, 2}) {
		for _, q := range [][]int{make([]int, len(p)), slices.Clone(p), {0}, {0, 1, 2}, nil} {
			see(p, q)
		}
	}
}

func TestDeskArgumentsStay(t *testing.T) {
	for _, probe := range deskCalls() {
		eachDeskLists(func(p, q []int) {
			first, firstMemory := guarded(p)
			second, secondMemory := guarded(q)
			firstBefore, secondBefore := slices.Clone(firstMemory), slices.Clone(secondMemory)
			lists, _ := probe.call(first, second)
			if !slices.Equal(firstMemory, firstBefore) || !slices.Equal(secondMemory, secondBefore) {
				t.Fatalf("%s of %v and %v changes its arguments or memory beyond them", probe.name, p, q)
			}
			for _, list := range lists {
				scribble(list, 999)
			}
			if !slices.Equal(firstMemory, firstBefore) || !slices.Equal(secondMemory, secondBefore) {
				t.Fatalf("a result of %s of %v and %v shares memory with an argument", probe.name, p, q)
			}
		})
	}
}

func TestDeskResultsAreNew(t *testing.T) {
	for _, probe := range deskCalls() {
		eachDeskLists(func(p, q []int) {
			lists, text := probe.call(p, q)
			before := fmt.Sprint(lists, text)
			again, _ := probe.call(p, q)
			for _, list := range again {
				scribble(list, 999)
			}
			third, thirdText := probe.call(p, q)
			if fmt.Sprint(lists, text) != before || fmt.Sprint(third, thirdText) != before {
				t.Fatalf("results of %s of %v and %v share memory, or state is kept", probe.name, p, q)
			}
		})
	}
}

// A script begins with the same desk, whatever the scripts before it have left.
func TestScriptsKeepNoState(t *testing.T) {
	for _, preparation := range somePreparations() {
		for _, script := range []string{"poly\nturn\ndegree\nprint\ntable 1 2 3 4 5 6\nprint", "read", "fit", "values 0 3\nprint", "setup 0 2\nturns 1"} {
			want := clerkOutput(script)
			impl.RunScript(preparation)
			expectOutput(t, script, want)
			impl.RunScript(preparation + "\n" + script)
			expectOutput(t, script, want)
		}
	}
}

// allDeskResults returns the results of all functions of the chapter, those of
// scripts included.
func allDeskResults() string {
	var text strings.Builder
	for _, probe := range deskCalls() {
		eachDeskLists(func(p, q []int) {
			lists, result := probe.call(p, q)
			fmt.Fprintln(&text, probe.name, lists, result)
		})
	}
	throw := dice(88)
	for range 12 {
		fmt.Fprintln(&text, impl.RunScript(strings.Join(someLines(80, throw), "\n")+deskProbes))
	}
	fmt.Fprintln(&text, impl.RunScript(exampleScript))
	return text.String()
}

func TestSchedulingIsNotSeenAtTheDesk(t *testing.T) {
	expectSameWhenScheduled(t, 4, allDeskResults)
}

// A goroutine that waits for ever after a call would be a deadlock here.
func TestNoGoroutineStaysAtTheDesk(t *testing.T) {
	synctest.Test(t, func(t *testing.T) { allDeskResults() })
}
