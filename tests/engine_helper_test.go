package tests

import (
	"fmt"
	"math/big"
	"slices"
	"strings"
	"testing"

	"loop.example/differenceengine/impl"
)

// The helpers here follow the definitions of the document with numbers: what
// the columns show after any number of turns is a sum with binomials, and is
// not made by turning.

func engineOf(columns ...string) impl.Engine { return impl.Engine{Columns: columns} }

// engineShowing returns the engine whose columns show numbers modulo 10 to the
// power of the width.
func engineShowing(numbers []int, width int) impl.Engine {
	e := impl.Engine{}
	for _, n := range numbers {
		e.Columns = append(e.Columns, showing(n, width))
	}
	return e
}

// shownBy returns what the columns of an engine show, and their width.
func shownBy(e impl.Engine) ([]int, int) {
	numbers := []int{}
	for _, c := range e.Columns {
		n := 0
		fmt.Sscanf(c, "%d", &n)
		numbers = append(numbers, n)
	}
	return numbers, len(e.Columns[0])
}

func moduloTens(n *big.Int, width int) int {
	return toInt(new(big.Int).Mod(n, big.NewInt(int64(tens(width)))))
}

// afterTurns returns what a column shows after n turns, or -n turns back: the
// sum of all columns from it on, times n over their distance.
func afterTurns(numbers []int, column, n, width int) int {
	sum := new(big.Int)
	for k := range len(numbers) - column {
		sum.Add(sum, new(big.Int).Mul(chosen(n, k), big.NewInt(int64(numbers[column+k]))))
	}
	return moduloTens(sum, width)
}

func turnedEngine(e impl.Engine, n int) impl.Engine {
	numbers, width := shownBy(e)
	turned := make([]int, len(numbers))
	for i := range numbers {
		turned[i] = afterTurns(numbers, i, n, width)
	}
	return engineShowing(turned, width)
}

func skewedEngine(e impl.Engine) impl.Engine {
	numbers, width := shownBy(e)
	skewed := make([]int, len(numbers))
	for i := range numbers {
		skewed[i] = afterTurns(numbers, i, -(i / 2), width)
	}
	return engineShowing(skewed, width)
}

// halfTurned returns the engine after one of both halves of a turn, that of the
// even indices (0) or that of the odd ones (1).
func halfTurned(e impl.Engine, half int) impl.Engine {
	numbers, width := shownBy(e)
	after := slices.Clone(numbers)
	for i := range len(numbers) - 1 {
		if i%2 == half {
			after[i] = numbers[i] + numbers[i+1]
		}
	}
	return engineShowing(after, width)
}

// sampleEngines are engines with all numbers of columns and of all widths: with
// zeros, with all wheels at 9, with all columns at the bounds, with negative
// differences, and mixed ones.
func sampleEngines() []impl.Engine {
	engines := []impl.Engine{engineOf("0008", "0019", "0018", "0006"), engineOf("0001", "0002"), engineOf("9996", "0035"), engineOf("1000", "9975", "9990", "0012"), engineOf("0967", "0035", "9999")}
	throw := dice(3)
	for count := 1; count <= 7; count++ {
		for width := 1; width <= 12; width++ {
			power := tens(width)
			rows := [][]int{make([]int, count), make([]int, count), make([]int, count), make([]int, count), make([]int, count), make([]int, count), make([]int, count)}
			for i := range count {
				rows[1][i] = -1
				rows[2][i] = power / 2
				rows[3][i] = power/2 - 1
				rows[4][i] = -throw(0, min(power, 300)-1)
				rows[5][i] = throw(0, power-1)
				rows[6][i] = throw(0, power-1)
			}
			for _, row := range rows {
				engines = append(engines, engineShowing(row, width))
			}
		}
	}
	return engines
}

// notEngines are engines that are not valid: without columns or with too many,
// with one that is none or has another width, in each place.
func notEngines() []impl.Engine {
	engines := []impl.Engine{{}, engineOf([]string{}...), engineOf("0", "0", "0", "0", "0", "0", "0", "0"), engineOf(slices.Repeat([]string{"0012"}, 8)...), engineOf(slices.Repeat([]string{"12"}, 100)...)}
	for _, c := range notColumns {
		engines = append(engines, engineOf(c), engineOf(c, c), engineOf(slices.Repeat([]string{c}, 8)...))
	}
	for count := 2; count <= 7; count++ {
		for place := range count {
			for _, c := range slices.Concat(notColumns, []string{"123", "12345", "1", "123456789012"}) {
				e := engineOf(slices.Repeat([]string{"0012"}, count)...)
				e.Columns[place] = c
				engines = append(engines, e)
			}
		}
		// Here all columns have the same number of wheels, which is too great.
		engines = append(engines, engineOf(slices.Repeat([]string{"1234567890123"}, count)...))
	}
	return engines
}

// textOf returns the columns of any engine, valid or not, for a message and for
// comparing.
func textOf(e impl.Engine) string { return fmt.Sprintf("%d%q", len(e.Columns), e.Columns) }

// expectEngine fails unless a call returned the wanted engine and true.
func expectEngine(t *testing.T, call string, got impl.Engine, ok bool, want impl.Engine) {
	t.Helper()
	if !slices.Equal(got.Columns, want.Columns) || !ok {
		t.Errorf("%s = %s, %v; want %s", call, textOf(got), ok, textOf(want))
	}
}

// expectNoEngine fails unless a call returned the zero value and false.
func expectNoEngine(t *testing.T, call string, got impl.Engine, ok bool) {
	t.Helper()
	if len(got.Columns) != 0 || ok {
		t.Errorf("%s = %s, %v; want the zero value and false", call, textOf(got), ok)
	}
}

func engineText(e impl.Engine) string { return strings.Join(e.Columns, " ") }

// An engineCall is a call of a function that makes an engine of another one.
type engineCall struct {
	name string
	call func(e impl.Engine) (impl.Engine, bool)
}

// engineCalls has all functions of the chapter that make an engine of one, with
// numbers of turns and widths within bounds.
func engineCalls() []engineCall {
	calls := []engineCall{
		{"TurnWhole", impl.TurnWhole}, {"TurnBack", impl.TurnBack}, {"TurnFirst", impl.TurnFirst}, {"TurnSecond", impl.TurnSecond},
		{"TurnHalves", impl.TurnHalves}, {"SkewEngine", impl.SkewEngine}, {"UnskewEngine", impl.UnskewEngine},
		{"AddEngines to itself", func(e impl.Engine) (impl.Engine, bool) { return impl.AddEngines(e, e) }},
		{"AddEngines to zeros", func(e impl.Engine) (impl.Engine, bool) { return impl.AddEngines(zerosLike(e), e) }},
		{"AddEngines of zeros", func(e impl.Engine) (impl.Engine, bool) { return impl.AddEngines(e, zerosLike(e)) }},
	}
	for _, n := range []int{0, 1, 2, 7, -1, -3, 300, -300} {
		calls = append(calls, engineCall{fmt.Sprintf("TurnMany by %d", n), func(e impl.Engine) (impl.Engine, bool) { return impl.TurnMany(e, n) }})
	}
	for width := 1; width <= 12; width++ {
		calls = append(calls, engineCall{fmt.Sprintf("WidenEngine to %d", width), func(e impl.Engine) (impl.Engine, bool) { return impl.WidenEngine(e, width) }})
	}
	return calls
}

// zerosLike returns an engine of zeros with the columns of e.
func zerosLike(e impl.Engine) impl.Engine {
	zeros := impl.Engine{}
	for _, c := range e.Columns {
		zeros.Columns = append(zeros.Columns, strings.Repeat("0", len(c)))
	}
	return zeros
}

// notTurns are numbers of turns that are too great.
var notTurns = []int{301, -301, 302, 600, 1000, -1000, minInt, minInt + 1, maxInt}

// notCounts are numbers of results that are negative or too great.
var notCounts = []int{-1, -2, -60, 61, 62, 1000, minInt, maxInt}
