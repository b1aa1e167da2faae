package tests

import (
	"fmt"
	"slices"
	"testing"

	"loop.example/differenceengine/impl"
)

// The helpers here follow the definitions of the document with numbers: engines
// that are coupled are turned one beside the other, and are not joined.

// fedTurn returns two engines after a turn in which a feeds b.
func fedTurn(a, b impl.Engine) (impl.Engine, impl.Engine) {
	x, width := shownBy(a)
	y, _ := shownBy(b)
	result := x[0]
	for i := range len(x) - 1 {
		x[i] += x[i+1]
	}
	for i := range len(y) - 1 {
		y[i] += y[i+1]
	}
	y[len(y)-1] += result
	return engineShowing(x, width), engineShowing(y, width)
}

// fedResults returns the results of b, at first and after each turn in which a
// feeds it.
func fedResults(a, b impl.Engine, count int) []int {
	results := []int{}
	for range count {
		numbers, width := shownBy(b)
		results = append(results, standsFor(numbers[0], width))
		a, b = fedTurn(a, b)
	}
	return results
}

// engineKinds returns engines with a number of columns of a width: zeros, all
// wheels at 9, all columns at the bounds, and mixed ones.
func engineKinds(count, width int) []impl.Engine {
	throw, power := dice(uint64(20*count+width)), tens(width)
	rows := [][]int{make([]int, count), make([]int, count), make([]int, count), make([]int, count), make([]int, count)}
	for i := range count {
		rows[1][i], rows[2][i], rows[3][i], rows[4][i] = -1, power/2-i%2, throw(0, power-1), throw(0, power-1)
	}
	engines := []impl.Engine{}
	for _, row := range rows {
		engines = append(engines, engineShowing(row, width))
	}
	return engines
}

// eachCouple calls see for engines that can be coupled, with all numbers of
// columns and of all widths.
func eachCouple(see func(a, b impl.Engine)) {
	for width := 1; width <= 12; width++ {
		for first := 1; first <= 6; first++ {
			for second := 1; first+second <= 7; second++ {
				for _, a := range engineKinds(first, width) {
					for _, b := range engineKinds(second, width) {
						see(a, b)
					}
				}
			}
		}
	}
}

// eachNoCouple calls see for engines that cannot be coupled: of other widths,
// with too many columns together, and such that one of them or both are not
// valid.
func eachNoCouple(see func(a, b impl.Engine)) {
	for first := 1; first <= 7; first++ {
		for second := 1; second <= 7; second++ {
			if first+second > 7 {
				for _, width := range []int{1, 4, 12} {
					see(engineKinds(first, width)[3], engineKinds(second, width)[4])
				}
				continue
			}
			for width := 1; width <= 12; width++ {
				for other := 1; other <= 12; other++ {
					if width != other {
						see(engineKinds(first, width)[3], engineKinds(second, other)[3])
					}
				}
			}
		}
	}
	for _, e := range notEngines() {
		see(engineOf("0012"), e)
		see(e, engineOf("0012"))
		see(engineOf("0012", "9999", "5000"), e)
		see(e, engineOf("0012", "9999", "5000"))
		see(e, e)
	}
}

// wantedEngines returns the engines that a test expects of numbers in columns of
// a width; false if one of them is no engine that can be set up.
func wantedEngines(rows [][]int, width int) ([]impl.Engine, bool) {
	engines := []impl.Engine{}
	for _, row := range rows {
		for _, n := range row {
			if 2*n < -tens(width) || 2*n >= tens(width) {
				return nil, false
			}
		}
		if !isPoly(row) {
			return nil, false
		}
		engines = append(engines, engineShowing(row, width))
	}
	return engines, true
}

func textsOf(list []impl.Engine) string {
	text := ""
	for _, e := range list {
		text += textOf(e) + " "
	}
	return text
}

// expectEngines fails unless a call returned the wanted engines and verdict.
func expectEngines(t *testing.T, call string, got []impl.Engine, ok bool, want []impl.Engine, wantOK bool) {
	t.Helper()
	if textsOf(got) != textsOf(want) || ok != wantOK {
		t.Errorf("%s = %s, %v; want %s, %v", call, textsOf(got), ok, textsOf(want), wantOK)
	}
}

// notSizes are slices that are not sizes of parts: too few or too many numbers,
// a negative one or one that is too great in each place, sums that are too great
// and ones that wrap around to what a sum may be.
func notSizes() [][]int {
	lists := [][]int{nil, {}, make([]int, 11), make([]int, 12), make([]int, 1000), slices.Repeat([]int{6}, 11), slices.Repeat([]int{1}, 60),
		{61}, {60, 1}, {1, 60}, {30, 31}, {0, 61, 0}, {7, 7, 7, 7, 7, 7, 7, 7, 7}, {60, 60}, {61, -1}, {-1, 61}, {30, -1, 31}, {-1, 1},
		{maxInt, maxInt, 2}, {maxInt, maxInt, 32}, {maxInt, 1, maxInt, 1}, {60, maxInt, maxInt, 2}, {minInt, minInt}, {maxInt, minInt}, {minInt, maxInt, 1}}
	for length := 1; length <= 10; length++ {
		for place := range length {
			for _, size := range []int{-1, -60, 61, 62, minInt, minInt + 1, maxInt, maxInt - 1} {
				list := make([]int, length)
				list[place] = size
				lists = append(lists, list)
			}
			over := slices.Repeat([]int{60 / length}, length)
			over[place] += 61 - 60/length*length
			lists = append(lists, over)
		}
	}
	return lists
}

// someSizes are sizes of parts: one and many, parts without results at all
// places, only such parts, and as many results as possible.
func someSizes() [][]int {
	lists := [][]int{{0}, {1}, {60}, {59, 1}, {1, 59}, {0, 60}, {60, 0}, {2, 0, 3}, {0, 0, 5}, {5, 0, 0}, {0, 4, 0}, {30, 30}, {1, 2, 3, 4, 5, 6, 7, 8, 9, 10}, {6, 6, 6, 6, 6, 6, 6, 6, 6, 6}, {0, 7, 0, 7, 0, 7, 0, 7, 0, 7}, {0, 0, 0, 0, 0, 0, 0, 0, 0, 60}, {60, 0, 0, 0, 0, 0, 0, 0, 0, 0}}
	for length := 1; length <= 10; length++ {
		lists = append(lists, make([]int, length), slices.Repeat([]int{60 / length}, length))
	}
	return lists
}

func sumOf(list []int) int {
	sum := 0
	for _, n := range list {
		sum += n
	}
	return sum
}

// notSharing are lists of engines that cannot share the work: of none, of too
// many, and with one that is not valid in each place.
func notSharing() [][]impl.Engine {
	lists := [][]impl.Engine{nil, {}, slices.Repeat([]impl.Engine{engineOf("12", "03")}, 11), slices.Repeat([]impl.Engine{engineOf("7")}, 60), make([]impl.Engine, 1), make([]impl.Engine, 10)}
	for _, e := range notEngines() {
		lists = append(lists, []impl.Engine{e}, []impl.Engine{engineOf("12"), e}, []impl.Engine{e, engineOf("12")})
	}
	for length := 1; length <= 10; length++ {
		for place := range length {
			for _, e := range []impl.Engine{{}, engineOf("1", "22"), engineOf("x"), engineOf("0", "0", "0", "0", "0", "0", "0", "0")} {
				list := slices.Repeat([]impl.Engine{engineOf("12", "03")}, length)
				list[place] = e
				lists = append(lists, list)
			}
		}
	}
	return lists
}

// sharingEngines are lists of 1 to 10 engines, all with other columns and other
// widths.
func sharingEngines() [][]impl.Engine {
	lists := [][]impl.Engine{{engineOf("7")}, {engineOf("0001", "0008", "0008"), engineOf("0004", "0012", "0008")}, slices.Repeat([]impl.Engine{engineOf("00", "01")}, 10)}
	for length := 1; length <= 10; length++ {
		for kind := range 5 {
			list := []impl.Engine{}
			for i := range length {
				list = append(list, engineKinds(1+(i+kind)%7, 1+(5*i+kind)%12)[(i+kind)%5])
			}
			lists = append(lists, list)
		}
	}
	return lists
}

func TestPairLimits(t *testing.T) {
	const (
		wheels      = impl.MaxWheels
		degree      = impl.MaxDegree
		coefficient = impl.MaxCoefficient
		argument    = impl.MaxArgument
		table       = impl.MaxTable
		entry       = impl.MaxEntry
		quarter     = impl.MaxQuarter
	)
	expectNumbers(t, "the limits", []int{wheels, degree, coefficient, argument, table, entry, quarter}, []int{12, 6, 100000, 200, 60, 1000000000, 59})
}

// The samples are what their names say.
func TestPairSamples(t *testing.T) {
	for _, list := range someSizes() {
		if len(list) < 1 || len(list) > 10 || sumOf(list) > 60 || slices.Min(list) < 0 {
			t.Errorf("%v are not sizes of parts", list)
		}
	}
	for _, list := range notSizes() {
		if len(list) >= 1 && len(list) <= 10 && slices.Min(list) >= 0 && slices.Max(list) <= 60 && sumOf(list) <= 60 {
			t.Errorf("%v are sizes of parts", list)
		}
	}
	eachCouple(func(a, b impl.Engine) {
		if len(a.Columns)+len(b.Columns) > 7 || len(a.Columns[0]) != len(b.Columns[0]) || !impl.EngineValid(a) || !impl.EngineValid(b) {
			t.Error(fmt.Sprintf("%s and %s cannot be coupled", textOf(a), textOf(b)))
		}
	})
	for _, list := range sharingEngines() {
		for _, e := range list {
			if !impl.EngineValid(e) {
				t.Errorf("%s is not valid", textOf(e))
			}
		}
	}
}
