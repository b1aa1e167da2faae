package tests

import (
	"fmt"
	"testing"
)

// The helpers here compute with numbers, not with wheels, so that a test does
// not repeat the program's own way.

func tens(exponent int) int {
	power := 1
	for range exponent {
		power *= 10
	}
	return power
}

// modulo returns the remainder between 0 and m-1, also for a negative n.
func modulo(n, m int) int { return (n%m + m) % m }

// showing returns the column of a width that shows n modulo 10 to the power of
// the width.
func showing(n, width int) string {
	return fmt.Sprintf("%0*d", width, modulo(n, tens(width)))
}

func standsFor(value, width int) int {
	if 2*value >= tens(width) {
		return value - tens(width)
	}
	return value
}

// edgeValues are the values at which columns of a width behave in a special
// way, and some ordinary ones.
func edgeValues(width int) []int {
	power := tens(width)
	values := []int{0, power / 2, power - 1, power / 9, power / 11, 123456789012 % power, 909090909090 % power, 967 % power, 35 % power}
	for _, near := range values[:3] {
		values = append(values, modulo(near+1, power), modulo(near-1, power), modulo(near-2, power))
	}
	for i := range width {
		values = append(values, tens(i), tens(i+1)-1, power-tens(i))
	}
	return values
}

// eachColumn calls see for all columns of up to three wheels and for the edges
// of all greater widths.
func eachColumn(see func(c string, value, width int)) {
	for width := 1; width <= 3; width++ {
		for value := range tens(width) {
			see(showing(value, width), value, width)
		}
	}
	for width := 4; width <= 12; width++ {
		for _, value := range edgeValues(width) {
			see(showing(value, width), value, width)
		}
	}
}

// eachPair calls see for all pairs of columns of up to two wheels and for pairs
// of edges of all greater widths.
func eachPair(see func(a, b string, x, y, width int)) {
	for width := 1; width <= 12; width++ {
		values := edgeValues(width)
		if width <= 2 {
			values = values[:0]
			for value := range tens(width) {
				values = append(values, value)
			}
		}
		for _, x := range values {
			for _, y := range values {
				see(showing(x, width), showing(y, width), x, y, width)
			}
		}
	}
}

// marksText returns marks whose lowest wheel is the lowest bit.
func marksText(bits, width int) string { return fmt.Sprintf("%0*b", width, bits) }

// eachMarked calls see for columns with all possible marks, up to three wheels,
// and for edges of greater widths with some.
func eachMarked(see func(c, marks string)) {
	for width := 1; width <= 12; width++ {
		values := edgeValues(width)
		step := 1 + (1<<width)/64
		if width <= 3 {
			values = values[:0]
			for value := range tens(width) {
				values = append(values, value)
			}
		}
		for _, value := range values {
			for bits := 0; bits < 1<<width; bits += step {
				see(showing(value, width), marksText(bits, width))
			}
			see(showing(value, width), marksText(1<<width-1, width))
		}
	}
}

// notColumns are strings that are not columns.
var notColumns = []string{
	"", "0123456789012", "1234567890123456789012345", "x", "1x", "x1", "1x1", "12345678901x",
	"-1", "+1", " 1", "1 ", "1 2", "1.0", "1_0", "0x1", "/", ":", "1\n", "1\x00", "\xff", "1\xff", "\u0663", "\uff11",
}

// notWidths are numbers that are not widths.
var notWidths = []int{0, -1, -12, 13, 14, 1000000, minInt, maxInt}

const (
	maxInt = int(^uint(0) >> 1)
	minInt = -maxInt - 1
)

// expectText fails unless a call returned the wanted text and verdict.
func expectText(t *testing.T, call, got string, ok bool, want string, wantOK bool) {
	t.Helper()
	if got != want || ok != wantOK {
		t.Errorf("%s = %q, %v; want %q, %v", call, got, ok, want, wantOK)
	}
}

// expectNumber fails unless a call returned the wanted number.
func expectNumber(t *testing.T, call string, got, want int) {
	t.Helper()
	if got != want {
		t.Errorf("%s = %d; want %d", call, got, want)
	}
}
