package tests

import (
	"fmt"
	"slices"
	"testing"

	"loop.example/differenceengine/impl"
)

// wantedVote counts, for each place, how many tables have each entry.
func wantedVote(a, b, c []int) ([]int, bool) {
	most := []int{}
	for i := range a {
		counts := map[int]int{}
		for _, table := range [][]int{a, b, c} {
			counts[table[i]]++
		}
		for n, count := range counts {
			if count >= 2 {
				most = append(most, n)
			}
		}
	}
	return most, len(most) == len(a)
}

// wantedFault looks for the only table that no other one equals.
func wantedFault(a, b, c []int) int {
	alone := []int{}
	tables := []string{fmt.Sprint(a), fmt.Sprint(b), fmt.Sprint(c)}
	for i, table := range tables {
		if table != tables[(i+1)%3] && table != tables[(i+2)%3] {
			alone = append(alone, i)
		}
	}
	switch len(alone) {
	case 0:
		return -1
	case 1:
		return alone[0]
	}
	return -2
}

func expectVote(t *testing.T, a, b, c []int) {
	t.Helper()
	want, wantOK := wantedVote(a, b, c)
	if !wantOK {
		want = nil
	}
	got, ok := impl.Vote(a, b, c)
	expectList(t, fmt.Sprintf("Vote(%v, %v, %v)", a, b, c), got, ok, want, wantOK)
	expectNumber(t, fmt.Sprintf("FaultyOne(%v, %v, %v)", a, b, c), impl.FaultyOne(a, b, c), wantedFault(a, b, c))
}

// shortEntries returns the table of a length whose entries are the digits of an
// index to the base 3.
func shortEntries(index, length int) []int {
	table := []int{}
	for range length {
		table = append(table, index%3-1)
		index /= 3
	}
	return table
}

// All triples of short tables of three entries.
func TestShortVotes(t *testing.T) {
	for length, all := range map[int]int{1: 3, 2: 9, 3: 27} {
		for i := range all {
			for j := range all {
				for k := range all {
					expectVote(t, shortEntries(i, length), shortEntries(j, length), shortEntries(k, length))
				}
			}
		}
	}
}

// someResults returns a table of a length with entries up to the bounds.
func someResults(length int) []int {
	table, throw := []int{}, dice(uint64(length))
	for range length {
		table = append(table, []int{1000000000, -1000000000, 0, throw(-9, 9), throw(-1000000000, 1000000000)}[throw(0, 4)])
	}
	return table
}

// Longer tables with a fault in one of them, in two and in all three, in the
// same place and in others.
func TestLongVotes(t *testing.T) {
	for _, length := range []int{1, 2, 5, 30, 59, 60} {
		right := someResults(length)
		for at := range length {
			wrong := slices.Clone(right)
			wrong[at] = 5 - right[at]/2
			for _, other := range []int{0, at, length / 2, length - 1} {
				also := slices.Clone(right)
				also[other] = right[other]/2 - 20
				expectVote(t, wrong, right, right)
				expectVote(t, right, wrong, right)
				expectVote(t, right, right, wrong)
				expectVote(t, wrong, also, right)
				expectVote(t, also, right, wrong)
				expectVote(t, right, wrong, also)
				expectVote(t, wrong, wrong, also)
			}
		}
		expectVote(t, right, right, right)
	}
}

// Promise 7: two engines of three that print the same table are enough.
func TestVotesOfEngines(t *testing.T) {
	e, _ := impl.SetUp([]int{0, 1, 6, 6}, 2, 8)
	right, _ := impl.RunEngine(e, 30)
	for column := range 4 {
		for turn := range 30 {
			wrong, ok := impl.RunWithSlip(e, 30, turn, column, 3)
			if !ok {
				t.Fatalf("RunWithSlip of a slip at %d, %d = false", turn, column)
			}
			want := 1
			if slices.Equal(wrong, right) {
				want = -1 // the slip comes too late to be seen
			}
			got, ok := impl.Vote(right, wrong, right)
			expectList(t, "Vote with a slip", got, ok, right, true)
			expectNumber(t, "FaultyOne with a slip", impl.FaultyOne(right, wrong, right), want)
		}
	}
}

func TestKnownVotes(t *testing.T) {
	for _, c := range []struct {
		a, b, c []int
		want    []int
		faulty  int
	}{
		{[]int{1, 2}, []int{1, 3}, []int{4, 3}, []int{1, 3}, -2}, {[]int{1}, []int{2}, []int{3}, nil, -2}, {[]int{1}, []int{1}, []int{1}, []int{1}, -1},
		{[]int{2}, []int{1}, []int{1}, []int{1}, 0}, {[]int{1}, []int{2}, []int{1}, []int{1}, 1}, {[]int{1}, []int{1}, []int{2}, []int{1}, 2},
		{[]int{1, 2, 3}, []int{4, 5, 6}, []int{7, 8, 9}, nil, -2}, {[]int{1, 2, 3}, []int{4, 5, 6}, []int{4, 5, 6}, []int{4, 5, 6}, 0}, {[]int{1, 2, 3}, []int{1, 5, 6}, []int{7, 5, 3}, []int{1, 5, 3}, -2},
		{[]int{1, 2, 3}, []int{1, 2, 4}, []int{1, 2, 5}, nil, -2}, {[]int{0, 1, 1}, []int{9, 1, 1}, []int{5, 1, 1}, nil, -2}, {[]int{1000000000, -1000000000}, []int{-1000000000, -1000000000}, []int{1000000000, 0}, []int{1000000000, -1000000000}, -2},
	} {
		got, ok := impl.Vote(c.a, c.b, c.c)
		expectList(t, fmt.Sprintf("Vote(%v, %v, %v)", c.a, c.b, c.c), got, ok, c.want, c.want != nil)
		expectNumber(t, fmt.Sprintf("FaultyOne(%v, %v, %v)", c.a, c.b, c.c), impl.FaultyOne(c.a, c.b, c.c), c.faulty)
	}
}

func TestNoVotes(t *testing.T) {
	none := func(a, b, c []int) {
		got, ok := impl.Vote(a, b, c)
		expectNone(t, fmt.Sprintf("Vote(%v, %v, %v)", a, b, c), got, ok)
		expectNumber(t, fmt.Sprintf("FaultyOne(%v, %v, %v)", a, b, c), impl.FaultyOne(a, b, c), -3)
	}
	for _, list := range notTables() {
		none(list, list, list)
		right := make([]int, min(60, max(1, len(list))))
		none(list, right, right)
		none(right, list, right)
		none(right, right, list)
		none(right, list, list)
		none(list, right, list)
		none(list, list, right)
	}
	for _, c := range []struct{ less, more int }{{1, 2}, {2, 3}, {1, 60}, {59, 60}, {30, 31}} {
		less, more := make([]int, c.less), make([]int, c.more)
		none(more, less, less)
		none(less, more, less)
		none(less, less, more)
		none(less, more, more)
		none(more, less, more)
		none(more, more, less)
	}
	none([]int{1}, []int{1, 2}, []int{1, 2, 3})
}
