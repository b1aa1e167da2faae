package tests

import (
	"fmt"
	"slices"
	"strings"
	"testing"

	"loop.example/differenceengine/impl"
)

// wantedErrata returns an erratum for each entry in which two tables differ.
func wantedErrata(right, printed []int) []impl.Erratum {
	list := []impl.Erratum{}
	for i := range right {
		if right[i] != printed[i] {
			list = append(list, impl.Erratum{At: i, Wrong: printed[i], Right: right[i]})
		}
	}
	return list
}

// What errata tell of a printed table makes the right one of it.
func TestErrataOf(t *testing.T) {
	tables := someTables()
	for i, right := range tables {
		for _, printed := range tables[i:] {
			list, ok := impl.ErrataOf(right, printed)
			call := fmt.Sprintf("ErrataOf(%v, %v)", right, printed)
			if len(right) != len(printed) {
				expectNoErrata(t, call, list, ok)
				continue
			}
			expectErrata(t, call, list, ok, wantedErrata(right, printed))
			got, ok := impl.ApplyErrata(printed, list)
			expectList(t, fmt.Sprintf("ApplyErrata(%v, %v)", printed, list), got, ok, right, true)
			if text := impl.FormatErrata(list); text != errataText(list) {
				t.Errorf("FormatErrata(%v) = %q", list, text)
			}
		}
	}
}

func TestErrataOfErrors(t *testing.T) {
	for _, right := range someTables() {
		for at, value := range right {
			for _, wrong := range []int{-value, value / 2, 1} {
				printed := changedBy(right, at, wrong-value)
				list, ok := impl.ErrataOf(right, printed)
				expectErrata(t, fmt.Sprintf("ErrataOf(%v, %v)", right, printed), list, ok, wantedErrata(right, printed))
			}
		}
	}
	for at := range 60 {
		right := rowFrom([]int{0, 1, 2}, -30, 60)
		list, ok := impl.ErrataOf(right, changedBy(right, at, -1))
		expectErrata(t, fmt.Sprintf("ErrataOf an error at %d", at), list, ok, []impl.Erratum{{At: at, Wrong: right[at] - 1, Right: right[at]}})
	}
	list, ok := impl.ErrataOf([]int{0, 1, 4}, []int{0, 2, -4})
	expectErrata(t, "ErrataOf", list, ok, []impl.Erratum{{At: 1, Wrong: 2, Right: 1}, {At: 2, Wrong: -4, Right: 4}})
	list, ok = impl.ErrataOf([]int{0, 1, 4}, []int{0, 1, 4})
	expectErrata(t, "ErrataOf equal tables", list, ok, nil)
}

func TestNoErrataOf(t *testing.T) {
	none := func(right, printed []int) {
		list, ok := impl.ErrataOf(right, printed)
		expectNoErrata(t, fmt.Sprintf("ErrataOf(%v, %v)", right, printed), list, ok)
	}
	for _, values := range notTables() {
		none(values, values)
		none(values, make([]int, len(values)))
		none(make([]int, len(values)), values)
		none(values, []int{1})
		none([]int{1}, values)
	}
	for _, values := range someTables() {
		none(values, values[1:])
		none(values[:len(values)-1], values)
		none(values, nil)
		none(nil, values)
		none(values, append(slices.Clone(values), 0))
		none(append(slices.Clone(values), 0), values)
	}
}

func TestApplyErrata(t *testing.T) {
	for _, list := range sampleErrata() {
		least := 0
		for _, e := range list {
			least = max(least, e.At)
		}
		for length := max(1, least+1); length <= 60; length++ {
			printed := rowFrom([]int{-7, 3}, 0, length)
			want := slices.Clone(printed)
			for _, e := range list {
				printed[e.At], want[e.At] = e.Wrong, e.Right
			}
			got, ok := impl.ApplyErrata(printed, list)
			expectList(t, fmt.Sprintf("ApplyErrata(%v, %v)", printed, list), got, ok, want, true)
		}
	}
}

// An entry that is not Wrong, or does not exist, in each place of the errata.
func TestErrataThatDoNotFit(t *testing.T) {
	for _, list := range sampleErrata() {
		for _, e := range list {
			printed := make([]int, 60)
			for _, other := range list {
				printed[other.At] = other.Wrong
			}
			got, ok := impl.ApplyErrata(printed[:e.At], list)
			expectNone(t, fmt.Sprintf("ApplyErrata(%v, %v)", printed[:e.At], list), got, ok)
			for _, n := range []int{e.Right, e.Wrong / 2, -e.Wrong} {
				if n != e.Wrong {
					wrong := slices.Clone(printed)
					wrong[e.At] = n
					got, ok = impl.ApplyErrata(wrong, list)
					expectNone(t, fmt.Sprintf("ApplyErrata(%v, %v)", wrong, list), got, ok)
				}
			}
		}
	}
	// Errata are not applied twice.
	list := []impl.Erratum{{At: 1, Wrong: 2, Right: 1}, {At: 2, Wrong: -4, Right: 4}}
	once, ok := impl.ApplyErrata([]int{0, 2, -4}, list)
	expectList(t, "ApplyErrata", once, ok, []int{0, 1, 4}, true)
	twice, ok := impl.ApplyErrata(once, list)
	expectNone(t, "ApplyErrata to its result", twice, ok)
}

func TestNoApplyErrata(t *testing.T) {
	for _, values := range notTables() {
		for _, list := range [][]impl.Erratum{nil, {}, {{At: 0, Wrong: 0, Right: 1}}} {
			got, ok := impl.ApplyErrata(values, list)
			expectNone(t, fmt.Sprintf("ApplyErrata(%v, %v)", values, list), got, ok)
		}
	}
	// Errata that would make a table of what is none.
	for _, n := range []int{1000000001, -1000000001} {
		got, ok := impl.ApplyErrata([]int{n}, []impl.Erratum{{At: 0, Wrong: n, Right: 5}})
		expectNone(t, fmt.Sprintf("ApplyErrata of [%d]", n), got, ok)
		got, ok = impl.ApplyErrata([]int{5}, []impl.Erratum{{At: 0, Wrong: 5, Right: n}})
		expectNone(t, fmt.Sprintf("ApplyErrata that puts %d", n), got, ok)
	}
	for _, list := range notErrata() {
		// The entries are those that are called wrong, as far as they can be.
		printed := make([]int, 60)
		for _, e := range list {
			if e.At >= 0 && e.At < 60 && isTable([]int{e.Wrong}) {
				printed[e.At] = e.Wrong
			}
		}
		got, ok := impl.ApplyErrata(printed, list)
		expectNone(t, fmt.Sprintf("ApplyErrata(%v, %v)", printed, list), got, ok)
	}
	// An entry that is corrected twice, or to what it is.
	for _, list := range [][]impl.Erratum{{{At: 1, Wrong: 2, Right: 3}, {At: 1, Wrong: 3, Right: 4}}, {{At: 1, Wrong: 2, Right: 3}, {At: 0, Wrong: 1, Right: 3}}, {{At: 0, Wrong: 1, Right: 1}}, {{At: 1, Wrong: 2, Right: 3}, {At: 1, Wrong: 2, Right: 3}}} {
		got, ok := impl.ApplyErrata([]int{1, 2}, list)
		expectNone(t, fmt.Sprintf("ApplyErrata([1 2], %v)", list), got, ok)
	}
}

func TestErrataTexts(t *testing.T) {
	for _, list := range sampleErrata() {
		if !isErrata(list) {
			t.Fatalf("%v are no errata", list)
		}
		text := errataText(list)
		if got := impl.FormatErrata(list); got != text {
			t.Errorf("FormatErrata(%v) = %q", list, got)
		}
		got, ok := impl.ParseErrata(text)
		expectErrata(t, fmt.Sprintf("ParseErrata(%q)", text), got, ok, list)
	}
	for _, list := range notErrata() {
		if isErrata(list) {
			t.Fatalf("%v are errata", list)
		}
		if got := impl.FormatErrata(list); got != "" {
			t.Errorf("FormatErrata(%v) = %q", list, got)
		}
		got, ok := impl.ParseErrata(errataText(list))
		expectNoErrata(t, fmt.Sprintf("ParseErrata(%q)", errataText(list)), got, ok)
	}
}

func TestKnownErrataTexts(t *testing.T) {
	for text, want := range map[string][]impl.Erratum{
		"-": nil, "3:28>27": {{At: 3, Wrong: 28, Right: 27}}, "1:2>1;2:-4>4": {{At: 1, Wrong: 2, Right: 1}, {At: 2, Wrong: -4, Right: 4}}, "0:0>-1": {{At: 0, Wrong: 0, Right: -1}}, "59:-1>0": {{At: 59, Wrong: -1, Right: 0}},
		"0:1000000000>-1000000000": {{At: 0, Wrong: 1000000000, Right: -1000000000}}, "9:5>6;10:5>6;11:0>10": {{At: 9, Wrong: 5, Right: 6}, {At: 10, Wrong: 5, Right: 6}, {At: 11, Wrong: 0, Right: 10}},
	} {
		got, ok := impl.ParseErrata(text)
		expectErrata(t, fmt.Sprintf("ParseErrata(%q)", text), got, ok, want)
		if formatted := impl.FormatErrata(want); formatted != text {
			t.Errorf("FormatErrata(%v) = %q; want %q", want, formatted, text)
		}
	}
}

func TestNoErrataTexts(t *testing.T) {
	texts := []string{
		"", " ", "--", "-;", ";-", "-;-", "- ", " -", "-\n", "+", "0", ";", ";;", ":", ">", ":>", "1", "1:", "1:2", "1:2>", ":2>1", "1:>1", ">", "1>2", "1>2:3", "1;2>3", "1:2;3", "x", "1:x>2", "1:2>x", "x:1>2",
		"1:2>2", "0:0>0", "2:1>2;1:1>2", "1:1>2;1:2>3", "1:1>2;0:1>2", "60:1>2", "-1:1>2", "100:1>2", "1:1000000001>2", "1:2>1000000001", "1:-1000000001>2", "1:2>-1000000001",
		"1:2>1;", ";1:2>1", "1:2>1;;2:3>4", "1:2>1;-", "-;1:2>1", "1:2>1 ", " 1:2>1", "1: 2>1", "1:2> 1", "1 :2>1", "1:2 >1", "1:2>1; 2:3>4", "1:2>1 ;2:3>4", "1:2>1,2:3>4", "1:2>1\n2:3>4", "1:2>1\n", "1:2>1\x00", "\xff", "1:2>1;\xff", "1:2>\u0663",
		"01:2>1", "1:02>1", "1:2>01", "+1:2>1", "1:+2>1", "1:2>+1", "-0:2>1", "1:-0>1", "1:2>-0", "1:--2>1", "1:2>1-", "1:2.0>1", "1:2>1e3", "1:0x2>1", "1:1_0>1", "00:1>2", "1:00>1",
		"1:2>1>3", "1:2>1:3", "1::2>1", "1:2>>1", "1:2<1", "1=2>1", "(1:2>1)", "1:2>1;2:3", "1:2>1;3", "1:9223372036854775807>2", "1:9223372036854775808>2", "1:2>-9223372036854775808", "18446744073709551617:2>1", "1:18446744073709551618>1", "1:2>99999999999999999999999",
		strings.Repeat("9", 1000) + ":2>1", strings.Repeat(";", 1000), strings.Repeat("1:2>1;", 1000),
	}
	all := []string{}
	for at := range 61 {
		all = append(all, fmt.Sprintf("%d:%d>%d", at, at, at+1))
	}
	texts = append(texts, strings.Join(all, ";"), strings.Join(all[:60], ";")+";", strings.Join(all[:60], ";")+";59:59>60", strings.Join(all[:60], "; "), strings.Join(all[1:], ";"))
	for _, text := range texts {
		got, ok := impl.ParseErrata(text)
		expectNoErrata(t, fmt.Sprintf("ParseErrata(%q)", text), got, ok)
	}
	got, ok := impl.ParseErrata(strings.Join(all[:60], ";"))
	if len(got) != 60 || !ok {
		t.Errorf("ParseErrata of 60 errata = %v, %v", got, ok)
	}
}

// Promise 4, from the differences to the errata: the error of a table is found
// and corrected, and the errata tell of it.
func TestErrataOfCorrections(t *testing.T) {
	for at := range 12 {
		printed, _ := impl.PutError(rowFrom([]int{0, 1, 6, 6}, 0, 12), at, -60)
		right, ok := impl.CorrectTable(printed, 3)
		expectList(t, fmt.Sprintf("CorrectTable(%v, 3)", printed), right, ok, rowFrom([]int{0, 1, 6, 6}, 0, 12), true)
		list, _ := impl.ErrataOf(right, printed)
		if want := fmt.Sprintf("%d:%d>%d", at, printed[at], right[at]); impl.FormatErrata(list) != want {
			t.Errorf("the errata of %v are %q; want %q", printed, impl.FormatErrata(list), want)
		}
	}
}
