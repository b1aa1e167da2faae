package tests

import (
	"fmt"
	"slices"
	"strconv"
	"strings"
	"testing"

	"loop.example/differenceengine/impl"
)

// The helpers here follow the definitions of the document: they try all entries,
// columns and turns, and not the ones that the differences suggest.

// isClean reports whether all differences that are taken degree + 1 times are 0.
func isClean(values []int, degree int) bool {
	for at := 0; at+degree+1 < len(values); at++ {
		if definedDifference(values, degree+1, at) != 0 {
			return false
		}
	}
	return true
}

// changedBy returns a copy of a table with an amount added to an entry.
func changedBy(values []int, at, amount int) []int {
	values = slices.Clone(values)
	values[at] += amount
	return values
}

// anErrorAt returns the amount of an error in an entry without which a table is
// clean, if there is one: the only one without which the first difference that
// the entry changes is 0.
func anErrorAt(values []int, degree, at int) (int, bool) {
	order := degree + 1
	from := max(0, at-order)
	factor := toInt(chosen(order, at-from))
	if (order-(at-from))%2 == 1 {
		factor = -factor
	}
	difference := definedDifference(values, order, from)
	if difference%factor != 0 || difference == 0 {
		return 0, false
	}
	amount := difference / factor
	return amount, isClean(changedBy(values, at, -amount), degree)
}

// A found is what a search for an error returns.
type found struct {
	at, amount, kind int
}

// wantedError returns what a search of a table is to find. It fails if there are
// several errors to be found.
func wantedError(t *testing.T, values []int, degree int) found {
	t.Helper()
	if isClean(values, degree) {
		return found{kind: impl.ErrorNone}
	}
	want := found{kind: impl.ErrorMany}
	for at := range values {
		if amount, ok := anErrorAt(values, degree, at); ok {
			if want.kind == impl.ErrorSingle {
				t.Fatalf("the table %v has several errors for the degree %d", values, degree)
			}
			want = found{at, amount, impl.ErrorSingle}
		}
	}
	return want
}

func expectFound(t *testing.T, values []int, degree int, want found) {
	t.Helper()
	at, amount, kind := impl.FindError(values, degree)
	if got := (found{at, amount, kind}); got != want {
		t.Errorf("FindError(%v, %d) = %v; want %v", values, degree, got, want)
	}
	list, ok := impl.CorrectTable(values, degree)
	call := fmt.Sprintf("CorrectTable(%v, %d)", values, degree)
	switch want.kind {
	case impl.ErrorNone:
		expectList(t, call, list, ok, values, true)
	case impl.ErrorSingle:
		expectList(t, call, list, ok, changedBy(values, want.at, -want.amount), true)
	default:
		expectNone(t, call, list, ok)
	}
}

// A slip is an amount by which a column of an engine slips after some turns.
type slip struct {
	column, turn, amount int
}

func (s slip) valid() bool {
	return s.column >= 0 && s.column <= 6 && s.turn >= 0 && s.turn <= 59 && s.amount >= -100000 && s.amount <= 100000
}

// effect returns by how much each of the first results is wrong.
func (s slip) effect(count int) []int {
	wrong := make([]int, count)
	for n := s.turn; n < count; n++ {
		wrong[n] = s.amount * toInt(chosen(n-s.turn, s.column))
	}
	return wrong
}

// notSlips have one number that no slip has, each of them at its bounds and far
// beyond them.
func notSlips() []slip {
	slips := []slip{}
	for _, n := range []int{-1, 7, 8, 100, minInt, maxInt} {
		slips = append(slips, slip{n, 0, 1}, slip{n, 59, 0})
	}
	for _, n := range []int{-1, 60, 61, 300, minInt, maxInt} {
		slips = append(slips, slip{0, n, 1}, slip{6, n, 0})
	}
	for _, n := range []int{100001, -100001, minInt, minInt + 1, maxInt} {
		slips = append(slips, slip{0, 0, n}, slip{6, 59, n}, slip{1, 3, n})
	}
	return slips
}

// wantedSlip returns the slip with the least column that makes printed of right.
func wantedSlip(right, printed []int) (slip, bool) {
	wrong := make([]int, len(right))
	for i := range right {
		wrong[i] = printed[i] - right[i]
	}
	for column := range 7 {
		for turn := 0; turn+column < len(right); turn++ {
			// The first result that is wrong is so by the amount.
			s := slip{column, turn, wrong[turn+column]}
			if s.amount != 0 && s.valid() && slices.Equal(s.effect(len(right)), wrong) {
				return s, true
			}
		}
	}
	return slip{}, false
}

// someTables are tables of several lengths: values of polynomials, zeros,
// entries at the bounds, and mixed ones.
func someTables() [][]int {
	tables := [][]int{{0}, {7}, {-1000000000}, {0, 1}, {1000000000, -1000000000}, {0, 1, 4}, {0, 1, 8, 27, 64, 125}}
	throw := dice(4)
	for _, length := range []int{1, 2, 3, 6, 9, 29, 30, 31, 59, 60} {
		mixed, bounds := make([]int, length), make([]int, length)
		for i := range length {
			mixed[i], bounds[i] = throw(-300, 300), 1000000000-2000000000*throw(0, 1)
		}
		tables = append(tables, mixed, bounds, make([]int, length))
		for _, p := range [][]int{{0, 1, 2}, {0, 1, 6, 6}, {-4, 9, -2, 0, 5}} {
			tables = append(tables, rowFrom(p, -3, length))
		}
	}
	return tables
}

// notDegrees are numbers that are not degrees.
var notDegrees = []int{-1, -2, 7, 8, 60, minInt, maxInt, maxInt - 1, maxInt - 2}

// notAmounts are numbers that are too great for an amount of an error.
var notAmounts = []int{1000000001, -1000000001, 2000000000, -2000000000, minInt, minInt + 1, maxInt}

// isErrata reports what the document calls errata.
func isErrata(list []impl.Erratum) bool {
	for i, e := range list {
		ascends := i == 0 || e.At > list[i-1].At
		if !ascends || e.At < 0 || e.At > 59 || e.Wrong == e.Right || !isTable([]int{e.Wrong, e.Right}) {
			return false
		}
	}
	return true
}

// sampleErrata are errata: none, one, at the bounds, and for all entries.
func sampleErrata() [][]impl.Erratum {
	lists := [][]impl.Erratum{nil, {}, {{At: 0, Wrong: 0, Right: 1}}, {{At: 59, Wrong: 1, Right: 0}}, {{At: 0, Wrong: -1000000000, Right: 1000000000}}, {{At: 7, Wrong: 1000000000, Right: -1000000000}},
		{{At: 1, Wrong: 2, Right: 1}, {At: 2, Wrong: -4, Right: 4}}, {{At: 0, Wrong: 5, Right: 6}, {At: 59, Wrong: 5, Right: 6}}, {{At: 3, Wrong: -1, Right: 0}, {At: 10, Wrong: 0, Right: -1}, {At: 11, Wrong: 10, Right: -20}}}
	all := []impl.Erratum{}
	for at := range 60 {
		all = append(all, impl.Erratum{At: at, Wrong: at - 30, Right: 1000000000 - at})
	}
	return append(lists, all, all[1:], all[:59], all[20:40])
}

// threes returns errata for the entries 10, 13, 16 and so on.
func threes(length int) []impl.Erratum {
	list := []impl.Erratum{}
	for i := range length {
		list = append(list, impl.Erratum{At: 10 + 3*i, Wrong: i, Right: -1 - i})
	}
	return list
}

// notErrata are slices that are not errata, as one number in one place is wrong:
// a number that no erratum has, or an index that does not ascend.
func notErrata() [][]impl.Erratum {
	lists := [][]impl.Erratum{make([]impl.Erratum, 1), make([]impl.Erratum, 61), make([]impl.Erratum, 1000)}
	for length := 1; length <= 4; length++ {
		for place := range length {
			for _, change := range wrongErrata() {
				list := threes(length)
				change(&list[place])
				lists = append(lists, list)
			}
			for at := 0; place > 0 && at <= 10+3*(place-1); at++ {
				list := threes(length)
				list[place].At = at
				lists = append(lists, list)
			}
		}
	}
	return lists
}

// wrongErrata make of an erratum something that is none.
func wrongErrata() []func(e *impl.Erratum) {
	changes := []func(e *impl.Erratum){func(e *impl.Erratum) { e.Right = e.Wrong }}
	for _, at := range []int{-1, -5, 60, 61, 1000, minInt, maxInt} {
		changes = append(changes, func(e *impl.Erratum) { e.At = at })
	}
	for _, n := range []int{1000000001, -1000000001, minInt, maxInt} {
		changes = append(changes, func(e *impl.Erratum) { e.Wrong = n }, func(e *impl.Erratum) { e.Right = n })
	}
	return changes
}

// errataText returns the text that any list would have.
func errataText(list []impl.Erratum) string {
	if len(list) == 0 {
		return "-"
	}
	texts := []string{}
	for _, e := range list {
		texts = append(texts, strconv.Itoa(e.At)+":"+strconv.Itoa(e.Wrong)+">"+strconv.Itoa(e.Right))
	}
	return strings.Join(texts, ";")
}

// expectErrata fails unless a call returned the wanted errata and true.
func expectErrata(t *testing.T, call string, got []impl.Erratum, ok bool, want []impl.Erratum) {
	t.Helper()
	if !slices.Equal(got, want) || !ok {
		t.Errorf("%s = %v, %v; want %v", call, got, ok, want)
	}
}

// expectNoErrata fails unless a call returned an empty slice and false.
func expectNoErrata(t *testing.T, call string, got []impl.Erratum, ok bool) {
	t.Helper()
	if len(got) != 0 || ok {
		t.Errorf("%s = %v, %v; want an empty slice and false", call, got, ok)
	}
}

func TestErrorLimits(t *testing.T) {
	const (
		degree      = impl.MaxDegree
		coefficient = impl.MaxCoefficient
		table       = impl.MaxTable
		entry       = impl.MaxEntry
		wheels      = impl.MaxWheels
		none        = impl.ErrorNone
		single      = impl.ErrorSingle
		many        = impl.ErrorMany
		invalid     = impl.ErrorInvalid
	)
	expectNumbers(t, "the limits", []int{degree, coefficient, table, entry, wheels}, []int{6, 100000, 60, 1000000000, 12})
	expectNumbers(t, "the codes", []int{none, single, many, invalid}, []int{0, 1, 2, 3})
}
