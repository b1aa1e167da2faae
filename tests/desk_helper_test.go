package tests

import (
	"fmt"
	"slices"
	"strings"
	"testing"

	"loop.example/differenceengine/impl"
)

// The helpers here follow the definitions of the document: what is valid is
// computed with numbers, and schedules are counted through, not searched.

// listText returns numbers in decimal with single spaces between them.
func listText(list []int) string { return strings.Trim(fmt.Sprint(list), "[]") }

// hasColumn reports whether a number has a column of a width.
func hasColumn(n, width int) bool { return 2*n >= -tens(width) && 2*n < tens(width) }

// haveColumns reports whether all numbers have a column of a width.
func haveColumns(list []int, width int) bool {
	for _, n := range list {
		if !hasColumn(n, width) {
			return false
		}
	}
	return true
}

// shiftedPoly returns the differences of a polynomial at an argument.
func shiftedPoly(p []int, n int) []int {
	shifted := []int{}
	for k := range p {
		shifted = append(shifted, definedValue(p[k:], n))
	}
	return shifted
}

// isJob reports what the document calls a valid job.
func isJob(j impl.Job) bool {
	if !isPoly(j.Poly) || j.From < -200 || j.From > 200 || j.Width < 1 || j.Width > 12 || j.Count < 1 || j.Count > 60 || j.From+j.Count > 201 {
		return false
	}
	shifted := shiftedPoly(j.Poly, j.From)
	if !isPoly(shifted) || !haveColumns(shifted, j.Width) || !haveColumns(rowFrom(j.Poly, j.From, j.Count), j.Width) {
		return false
	}
	return j.Digits >= 0 && j.Digits <= 6 && j.Way >= 0 && j.Way <= 2 && isLayout(j.Layout)
}

// jobOf returns the job with these numbers.
func jobOf(p []int, from, count, width, digits, way int, l impl.Layout) impl.Job {
	return impl.Job{Poly: p, From: from, Count: count, Width: width, Digits: digits, Way: way, Layout: l}
}

// jobText returns the text that any job would have.
func jobText(j impl.Job) string {
	return fmt.Sprintf("%s;%d %d %d;%d %d;%d %d %d", listText(j.Poly), j.From, j.Count, j.Width, j.Digits, j.Way, j.Layout.Rows, j.Layout.Across, j.Layout.Wide)
}

// squaresJob is the job of the document's example.
func squaresJob() impl.Job { return jobOf([]int{0, 1, 2}, 1, 3, 4, 0, 0, layoutOf(2, 2, 3)) }

// someJobs are valid jobs: each number at its bounds, polynomials of all lengths,
// values that just fit, tables that have entries that are too great, and entries
// that are too long for their pages.
func someJobs() []impl.Job {
	jobs := []impl.Job{squaresJob()}
	for _, from := range []int{-200, -199, -1, 0, 1, 199, 200} {
		jobs = append(jobs, jobOf([]int{7}, from, 1, 2, 0, 0, layoutOf(2, 2, 3)), jobOf([]int{0, 1}, from, min(60, 201-from), 4, 1, 1, layoutOf(20, 6, 12)))
	}
	for count := 1; count <= 60; count++ {
		jobs = append(jobs, jobOf([]int{-5, 3}, 2, count, 5, count%7, count%3, someLayouts()[2*count]))
	}
	for width := 2; width <= 6; width++ {
		jobs = append(jobs, fillingJob(width))
	}
	jobs = append(jobs, jobOf([]int{0, 1}, 0, 5, 1, 0, 0, layoutOf(2, 2, 1)), jobOf([]int{0, 1}, -5, 10, 1, 0, 0, layoutOf(2, 2, 1)), jobOf([]int{0, -1}, 0, 6, 1, 0, 0, layoutOf(2, 2, 2)), jobOf([]int{100000, 100000, 100000}, 0, 1, 7, 6, 2, layoutOf(1, 1, 1)), jobOf([]int{-100000}, -200, 60, 6, 6, 1, layoutOf(1, 1, 12)))
	// These have a table with as great an entry as possible, and none at all.
	jobs = append(jobs, jobOf(reachingBound, 0, 41, 12, 0, 0, layoutOf(20, 6, 10)), jobOf(reachingBound, 0, 42, 12, 0, 0, layoutOf(20, 6, 12)), jobOf([]int{-321, -100000, -10256, -100000}, 0, 41, 12, 6, 0, layoutOf(20, 6, 12)), jobOf([]int{0, 0, 0, 100000}, 0, 60, 12, 6, 1, layoutOf(5, 2, 8)))
	// The entries of these are too long for their pages: all, one, and only
	// before they are rounded.
	jobs = append(jobs, jobOf([]int{10}, 0, 3, 4, 0, 0, layoutOf(2, 2, 1)), jobOf([]int{8, 1}, 0, 3, 4, 0, 0, layoutOf(1, 1, 1)), jobOf([]int{-1}, 0, 2, 4, 0, 0, layoutOf(2, 2, 1)), jobOf([]int{-1}, 0, 2, 4, 1, 1, layoutOf(2, 2, 1)), jobOf([]int{95}, 0, 2, 4, 1, 2, layoutOf(2, 2, 1)), jobOf([]int{94}, 0, 2, 4, 1, 2, layoutOf(2, 2, 1)))
	for digits := range 7 {
		for way := range 3 {
			jobs = append(jobs, jobOf([]int{-4321, 765, 85}, -7, 20, 7, digits, way, layoutOf(4, 3, 5)))
		}
	}
	for i, p := range samplePolys() {
		jobs = append(jobs, jobOf(p, 0, 1, 12, 0, 0, layoutOf(2, 3, 9)))
		for _, from := range []int{-30, -3, 0, 4, 190} {
			if j := jobOf(p, from, 1+i%9, 12, i%7, i%3, someLayouts()[i]); isJob(j) {
				jobs = append(jobs, j)
			}
		}
	}
	return jobs
}

// fillingJob returns a valid job whose columns have no number for one value more.
func fillingJob(width int) impl.Job {
	step := tens(width) / 80
	return jobOf([]int{0, step}, 0, (tens(width)/2-1)/step+1, width, 0, 0, layoutOf(3, 2, 8))
}

// changedJob returns a valid job after a change, in memory of its own.
func changedJob(change func(j *impl.Job)) impl.Job {
	j := squaresJob()
	change(&j)
	return j
}

// notJobs are jobs that are not valid, most of them because of one number.
func notJobs() []impl.Job {
	jobs := []impl.Job{{}}
	add := func(change func(j *impl.Job)) { jobs = append(jobs, changedJob(change)) }
	for _, p := range notPolys() {
		add(func(j *impl.Job) { j.Poly = p })
	}
	for _, n := range notArguments {
		add(func(j *impl.Job) { j.Poly, j.From = []int{1}, n })
	}
	for _, n := range append([]int{0}, notCounts...) {
		add(func(j *impl.Job) { j.Count = n })
		add(func(j *impl.Job) { j.Count, j.From, j.Poly = n, -200, []int{0} })
	}
	for _, c := range [][2]int{{200, 2}, {200, 60}, {199, 3}, {150, 52}, {142, 60}} {
		add(func(j *impl.Job) { j.Poly, j.From, j.Count = []int{0, 1}, c[0], c[1] })
	}
	for _, n := range notWidths {
		add(func(j *impl.Job) { j.Width = n })
	}
	for _, n := range notGuards {
		add(func(j *impl.Job) { j.Digits = n })
	}
	for _, n := range notWays {
		add(func(j *impl.Job) { j.Way = n })
	}
	for _, l := range notLayouts() {
		add(func(j *impl.Job) { j.Layout = l })
	}
	for width := 2; width <= 6; width++ {
		j := fillingJob(width)
		j.Count++
		jobs = append(jobs, j)
	}
	l := layoutOf(2, 2, 3)
	// A value, or only a difference, has no column; or a difference at the first
	// argument is too great.
	return append(jobs, jobOf([]int{0, 1}, 0, 6, 1, 0, 0, l), jobOf([]int{0, 1}, -6, 2, 1, 0, 0, l), jobOf([]int{0, 1, 2}, 1, 8, 2, 0, 0, l), jobOf([]int{0, 5}, 0, 1, 1, 0, 0, l), jobOf([]int{0, 0, -6}, 0, 1, 1, 0, 0, l), jobOf([]int{50}, 0, 1, 2, 0, 0, l),
		jobOf([]int{0, 100000}, 2, 1, 12, 0, 0, l), jobOf([]int{0, 0, 1000}, 102, 1, 12, 0, 0, l), jobOf([]int{100000, 1}, 1, 1, 12, 0, 0, l), jobOf([]int{100000, 100000, 100000, 100000, 100000, 100000, 100000}, 0, 60, 12, 0, 0, l))
}

// expectNoJob fails unless a call returned the zero value and false.
func expectNoJob(t *testing.T, call string, got impl.Job, ok bool) {
	t.Helper()
	zero := got.From == 0 && got.Count == 0 && got.Width == 0 && got.Digits == 0 && got.Way == 0 && got.Layout == impl.Layout{}
	if len(got.Poly) != 0 || !zero || ok {
		t.Errorf("%s = %v, %v; want the zero value and false", call, got, ok)
	}
}

// someTimes are times: none, one, as many as possible, equal ones, ones at the
// bounds, and such that taking the engine that is free first is not best.
func someTimes() [][]int {
	lists := [][]int{nil, {}, {0}, {7}, {1000}, {3, 3, 2, 2, 2}, {2, 2, 2, 3, 3}, {5, 5, 4, 4, 3, 3, 3}, {1, 2, 3, 4, 5, 6, 7, 8}, {8, 7, 6, 5, 4, 3, 2, 1}, {1000, 0, 1000, 0, 1000}, {0, 0, 1, 0}, {1, 1, 1, 1, 1, 1, 1, 9}, {9, 1, 1, 1, 1, 1, 1, 1}}
	for length := 1; length <= 8; length++ {
		lists = append(lists, make([]int, length), slices.Repeat([]int{1000}, length), slices.Repeat([]int{3}, length))
		throw := dice(uint64(80 + length))
		for _, most := range []int{1, 3, 20, 1000} {
			for range 2 {
				times := []int{}
				for range length {
					times = append(times, throw(0, most))
				}
				lists = append(lists, times)
			}
		}
	}
	return append(lists, allLists([]int{0, 1, 2, 5}, 3)...)
}

// notTimes are numbers that are not times: too many of them, or one that is
// negative or too great, in each place.
func notTimes() [][]int {
	lists := [][]int{make([]int, 9), make([]int, 10), make([]int, 1000), slices.Repeat([]int{5}, 9)}
	for length := 1; length <= 8; length++ {
		for place := range length {
			for _, n := range []int{-1, -2, -1000, 1001, 1002, minInt, minInt + 1, maxInt} {
				times := make([]int, length)
				times[place] = n
				lists = append(lists, times)
			}
		}
	}
	return lists
}

// notNumbersOfEngines are numbers of engines that no schedule is made for.
var notNumbersOfEngines = []int{0, -1, -2, -3, 4, 5, 8, 1000, minInt, maxInt}

// allSchedules returns all schedules, in the order of the numbers that their
// engines are the digits of.
func allSchedules(length, engines int) [][]int {
	schedules := [][]int{{}}
	for range length {
		longer := [][]int{}
		for _, given := range schedules {
			for engine := range engines {
				longer = append(longer, slices.Concat(given, []int{engine}))
			}
		}
		schedules = longer
	}
	return schedules
}

// busy returns how long an engine works in a schedule, or in its beginning.
func busy(times, given []int, engine int) int {
	sum := 0
	for i, e := range given {
		if e == engine {
			sum += times[i]
		}
	}
	return sum
}

func spanOf(times, given []int) int {
	span := 0
	for engine := range 3 {
		span = max(span, busy(times, given, engine))
	}
	return span
}

func TestDeskLimits(t *testing.T) {
	const (
		jobs        = impl.MaxJobs
		engines     = impl.MaxEngines
		script      = impl.MaxScript
		lines       = impl.MaxLines
		output      = impl.MaxOutput
		cost        = impl.MaxCost
		table       = impl.MaxTable
		entry       = impl.MaxEntry
		wheels      = impl.MaxWheels
		degree      = impl.MaxDegree
		coefficient = impl.MaxCoefficient
		argument    = impl.MaxArgument
		turns       = impl.MaxTurns
		small       = impl.MaxSmall
		guard       = impl.MaxGuard
		rows        = impl.MaxRows
		across      = impl.MaxAcross
		wide        = impl.MaxWide
	)
	expectNumbers(t, "the limits of jobs", []int{jobs, engines, cost, table, wheels, degree, coefficient, argument, guard, rows, across, wide}, []int{8, 3, 1000, 60, 12, 6, 100000, 200, 6, 20, 6, 12})
	expectNumbers(t, "the limits of scripts", []int{script, lines, output, entry, turns, small}, []int{20000, 100, 40000, 1000000000, 300, 1500})
	expectNumbers(t, "the ways and codes", []int{impl.RoundDown, impl.RoundNear, impl.RoundEven, impl.ErrorNone, impl.ErrorSingle, impl.ErrorMany, impl.ErrorInvalid}, []int{0, 1, 2, 0, 1, 2, 3})
}

// The samples are what their names say.
func TestDeskSamples(t *testing.T) {
	tables, sheets := 0, 0
	for _, j := range someJobs() {
		if !isJob(j) {
			t.Errorf("%s is no job", jobText(j))
			continue
		}
		if values := rowFrom(j.Poly, j.From, j.Count); isTable(values) {
			tables++
			if _, ok := printedTable(j.Layout, roundedTable(values, j.Digits, j.Way)); ok {
				sheets++
			}
		}
	}
	if tables == len(someJobs()) || sheets == tables || 2*sheets < tables {
		t.Errorf("of %d jobs, %d have tables and %d have pages", len(someJobs()), tables, sheets)
	}
	for _, j := range notJobs() {
		if isJob(j) {
			t.Errorf("%s is a job", jobText(j))
		}
	}
	for _, times := range someTimes() {
		if len(times) > 8 || len(times) > 0 && (slices.Min(times) < 0 || slices.Max(times) > 1000) {
			t.Errorf("%v are not times", times)
		}
	}
	expectText(t, "the schedules", fmt.Sprint(allSchedules(2, 2)), true, "[[0 0] [0 1] [1 0] [1 1]]", true)
	expectNumber(t, "the number of schedules", len(allSchedules(8, 3)), 6561)
}
