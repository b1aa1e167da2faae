package tests

import (
	"fmt"
	"regexp"
	"slices"
	"strconv"
	"strings"
	"testing"

	"loop.example/differenceengine/impl"
)

// expectJob fails unless all functions of the chapter return for a job what the
// document defines.
func expectJob(t *testing.T, j impl.Job) {
	t.Helper()
	if !isJob(j) {
		expectInvalid(t, j)
		return
	}
	text := jobText(j)
	if !impl.JobValid(j) {
		t.Errorf("JobValid(%s) = false", text)
	}
	expectText(t, "FormatJob", impl.FormatJob(j), true, text, true)
	expectParsed(t, text, j, true)
	expectNumber(t, "JobTime of "+text, impl.JobTime(j), len(j.Poly)*j.Width+j.Count)
	values, ok := impl.JobTable(j)
	sheet, printed := impl.JobSheet(j)
	table := rowFrom(j.Poly, j.From, j.Count)
	if !isTable(table) {
		expectNone(t, "JobTable of "+text, values, ok)
		expectText(t, "JobSheet of "+text, sheet, printed, "", false)
		return
	}
	table = roundedTable(table, j.Digits, j.Way)
	expectList(t, "JobTable of "+text, values, ok, table, true)
	want, wantOK := printedTable(j.Layout, table)
	expectText(t, "JobSheet of "+text, sheet, printed, want, wantOK)
}

// expectInvalid fails unless all functions of the chapter return for a job that
// is not valid what the document defines.
func expectInvalid(t *testing.T, j impl.Job) {
	t.Helper()
	text := jobText(j)
	if impl.JobValid(j) {
		t.Errorf("JobValid(%s) = true", text)
	}
	expectText(t, "FormatJob of "+text, impl.FormatJob(j), true, "", true)
	values, ok := impl.JobTable(j)
	expectNone(t, "JobTable of "+text, values, ok)
	sheet, ok := impl.JobSheet(j)
	expectText(t, "JobSheet of "+text, sheet, ok, "", false)
	expectNumber(t, "JobTime of "+text, impl.JobTime(j), -1)
	expectParsed(t, text, impl.Job{}, false)
}

func expectParsed(t *testing.T, text string, want impl.Job, wantOK bool) {
	t.Helper()
	got, ok := impl.ParseJob(text)
	if !wantOK {
		expectNoJob(t, fmt.Sprintf("ParseJob(%q)", text), got, ok)
		return
	}
	if jobText(got) != jobText(want) || !slices.Equal(got.Poly, want.Poly) || !ok {
		t.Errorf("ParseJob(%q) = %v, %v; want %v", text, got, ok, want)
	}
}

func TestJobs(t *testing.T) {
	for _, j := range someJobs() {
		expectJob(t, j)
	}
	for _, j := range notJobs() {
		expectJob(t, j)
	}
}

// Jobs of anything near the bounds, about as many that are valid as not.
func TestManyJobs(t *testing.T) {
	throw, polys, valid := dice(81), samplePolys(), 0
	for range 4000 {
		p := polys[throw(0, len(polys)-1)]
		if throw(0, 1) == 0 {
			p = []int{throw(-300, 300), throw(-20, 20), throw(-3, 3)}[:throw(1, 3)]
		}
		j := jobOf(p, []int{throw(-6, 6), throw(-201, 201), throw(140, 201)}[throw(0, 2)], throw(0, 61), throw(2, 13), throw(0, 6), throw(0, 2), layoutOf(throw(1, 20), throw(1, 6), throw(1, 12)))
		switch throw(0, 30) {
		case 0:
			j.Digits = throw(-1, 7)
		case 1:
			j.Way = throw(-1, 3)
		case 2:
			j.Layout = layoutOf(throw(0, 21), throw(0, 7), throw(0, 13))
		}
		if isJob(j) {
			valid++
		}
		expectJob(t, j)
	}
	if valid < 500 || valid > 3500 {
		t.Errorf("of 4000 jobs, %d are valid", valid)
	}
}

func TestKnownJobs(t *testing.T) {
	for _, c := range []struct {
		text  string
		table []int
		sheet string
		time  int
	}{
		{"0 1 2;1 3 4;0 0;2 2 3", []int{1, 4, 9}, "  1   9\n  4\n", 15},
		{"0 1 6 6;2 4 4;1 1;1 2 3", []int{1, 3, 6, 13}, "  1   3\n\n  6  13\n", 20},
		{"0;0 1 1;0 0;1 1 1", []int{0}, "0\n", 2},
		{"-5 10;-200 2 5;1 0;20 6 12", []int{-201, -200}, "        -201\n        -200\n", 12},
		{"25 10;0 3 4;1 2;1 1 1", []int{2, 4, 4}, "2\n\n4\n\n4\n", 11},
		{"25 10;0 3 4;1 1;1 1 1", []int{3, 4, 5}, "3\n\n4\n\n5\n", 11},
		{"98 1;0 3 4;0 0;5 2 2", []int{98, 99, 100}, "", 11},
		{"-10 2;0 3 4;0 0;2 2 2", []int{-10, -8, -6}, "", 11},
		{"320 100000 10256 100000;0 42 12;6 0;20 1 4", nil, "", 90},
	} {
		j, ok := impl.ParseJob(c.text)
		if !ok {
			t.Errorf("ParseJob(%q) = false", c.text)
			continue
		}
		expectText(t, "FormatJob", impl.FormatJob(j), true, c.text, true)
		expectNumber(t, "JobTime of "+c.text, impl.JobTime(j), c.time)
		values, ok := impl.JobTable(j)
		expectList(t, "JobTable of "+c.text, values, ok, c.table, c.table != nil)
		sheet, ok := impl.JobSheet(j)
		expectText(t, "JobSheet of "+c.text, sheet, ok, c.sheet, c.sheet != "")
	}
}

// jobPattern is the form of the text of a job, in which a number may still be too
// great.
var jobPattern = regexp.MustCompile(strings.ReplaceAll(`^(N(?: N){0,6});(N) (N) (N);(N) (N);(N) (N) (N)$`, "N", `(?:0|-?[1-9][0-9]{0,8})`))

// definedJob returns the job with a text, if there is one.
func definedJob(text string) (impl.Job, bool) {
	parts := jobPattern.FindStringSubmatch(text)
	if parts == nil {
		return impl.Job{}, false
	}
	numbers := []int{}
	for _, part := range parts[2:] {
		n, _ := strconv.Atoi(part)
		numbers = append(numbers, n)
	}
	p := []int{}
	for _, part := range strings.Split(parts[1], " ") {
		n, _ := strconv.Atoi(part)
		p = append(p, n)
	}
	j := jobOf(p, numbers[0], numbers[1], numbers[2], numbers[3], numbers[4], layoutOf(numbers[5], numbers[6], numbers[7]))
	if !isJob(j) {
		return impl.Job{}, false
	}
	return j, true
}

// All texts that differ from that of a job in one byte are that of another one,
// or of none.
func TestTextsLikeJobs(t *testing.T) {
	others := 0
	see := func(text string) {
		want, ok := definedJob(text)
		if ok {
			others++
		}
		expectParsed(t, text, want, ok)
	}
	for _, text := range []string{"0 1 2;1 3 4;0 0;2 2 3", "-5 10;-10 12 5;1 0;20 6 12", "0;0 1 1;0 0;1 1 1", "1 2 3 4 5 6 7;-1 1 2;6 2;10 1 10"} {
		for at := range len(text) + 1 {
			for _, c := range []string{"0", "1", "9", "-", "+", " ", ";", "\n", "\t", ".", ",", ":", "x", "_", "\x00", "\xff", "\u0663", "00", "  ", ";;", " 0", "0 ", "-0", "; ", " ;", ";0"} {
				see(text[:at] + c + text[at:])
				if at < len(text) {
					see(text[:at] + c + text[at+1:])
				}
			}
			if at < len(text) {
				see(text[:at] + text[at+1:])
				see(text[:at])
				see(text[at:])
			}
		}
	}
	if others < 100 {
		t.Errorf("only %d texts are those of jobs", others)
	}
}

func TestTextsOfNoJobs(t *testing.T) {
	for _, text := range []string{
		"", ";", ";;;", " ", "-", "0 1 2", "0 1 2;1 3 4", "0 1 2;1 3 4;0 0", "0 1 2;1 3 4;0 0;", "0 1 2;1 3 4;0 0;2 2", "0 1 2;1 3 4;0 0;2 2 3 4", "0 1 2;1 3 4;0 0;2 2 3;", "0 1 2;1 3 4;0 0;2 2 3;1", ";0 1 2;1 3 4;0 0;2 2 3", ";1 3 4;0 0;2 2 3",
		"0 1 2 1 3 4 0 0 2 2 3", "0 1 2;1 3;4 0 0;2 2 3", "0 1 2;1 3 4 0;0;2 2 3", "0 1 2;1 3 4;0 0 2;2 3", "0 1;2 1 3 4;0 0;2 2 3", "0 1 2;1;3 4;0 0;2 2 3", "0 1 2;1 3 4 0 0 2 2 3", "0 1 2;1;3;4;0;0;2;2;3", "0 1 2 1;3 4;0 0;2 2 3", "0;1;2;1 3 4;0 0;2 2 3",
		"0 1 2; 1 3 4;0 0;2 2 3", "0 1 2;1 3 4; 0 0;2 2 3", "0 1 2 ;1 3 4;0 0;2 2 3", "0 1 2;1 3 4;0 0;2 2 3\n", " 0 1 2;1 3 4;0 0;2 2 3", "0 1 2;1  3 4;0 0;2 2 3", "0 1 2;+1 3 4;0 0;2 2 3", "0 1 2;01 3 4;0 0;2 2 3", "0 1 2;1 3 4;-0 0;2 2 3", "0 1 2;1 3 4;0 -0;2 2 3", "00 1 2;1 3 4;0 0;2 2 3",
		"0 1 2;1 3 1;0 0;2 2 3", "0 1 2;1 3 4;0 3;2 2 3", "0 1 2;1 3 4;7 0;2 2 3", "0 1 2;1 0 4;0 0;2 2 3", "0 1 2;1 61 4;0 0;2 2 3", "0 1 2;201 1 12;0 0;2 2 3", "0 1 2;1 3 13;0 0;2 2 3", "0 1 2;1 3 4;0 0;0 2 3", "0 1 2;1 3 4;0 0;2 7 3", "0 1 2;1 3 4;0 0;2 2 13", "0 1 2 3 4 5 6 7;0 1 4;0 0;2 2 3", "100001;0 1 12;0 0;2 2 3",
		"0 1 2;18446744073709551617 3 4;0 0;2 2 3", "0 1 2;1 3 4;0 0;2 2 18446744073709551619", "18446744073709551616 1 2;1 3 4;0 0;2 2 3", "0 1 2;1 99999999999999999 4;0 0;2 2 3",
		strings.Repeat("1 ", 100000), strings.Repeat(";", 100000), strings.Repeat("0", 100000), "0 1 2;1 3 4;0 0;2 2 " + strings.Repeat("3", 1000), strings.Repeat("0 1 2;1 3 4;0 0;2 2 3;", 1000), "\xff\xfe", "poly 0",
	} {
		expectParsed(t, text, impl.Job{}, false)
	}
	for _, j := range notJobs() {
		expectParsed(t, jobText(j), impl.Job{}, false)
	}
}
