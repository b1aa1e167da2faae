package tests

import (
	"fmt"
	"slices"
	"strconv"
	"testing"

	"loop.example/differenceengine/impl"
)

// remainders returns the remainders of entries.
func remainders(values []int, divisor int) []int {
	list := []int{}
	for _, n := range values {
		list = append(list, modulo(n, divisor))
	}
	return list
}

func TestRemainders(t *testing.T) {
	for _, values := range sampleTables() {
		expectNumbers(t, fmt.Sprintf("NinesOf(%v)", values), impl.NinesOf(values), remainders(values, 9))
		expectNumbers(t, fmt.Sprintf("ElevensOf(%v)", values), impl.ElevensOf(values), remainders(values, 11))
	}
	for _, values := range notTables() {
		expectNumbers(t, fmt.Sprintf("NinesOf(%v)", values), impl.NinesOf(values), nil)
		expectNumbers(t, fmt.Sprintf("ElevensOf(%v)", values), impl.ElevensOf(values), nil)
	}
}

func TestKnownRemainders(t *testing.T) {
	values := []int{0, 1, 8, 9, 10, 11, 12, -1, -8, -9, -10, -11, -12, 1000000000, -1000000000}
	expectNumbers(t, "NinesOf", impl.NinesOf(values), []int{0, 1, 8, 0, 1, 2, 3, 8, 1, 0, 8, 7, 6, 1, 8})
	expectNumbers(t, "ElevensOf", impl.ElevensOf(values), []int{0, 1, 8, 9, 10, 0, 1, 10, 3, 2, 1, 0, 10, 10, 1})
}

func TestWrongNines(t *testing.T) {
	throw := dice(10)
	for _, values := range someTables() {
		nines := remainders(values, 9)
		call := fmt.Sprintf("WrongNines(%v, %v)", values, nines)
		expectNumbers(t, call, impl.WrongNines(values, nines), nil)
		all, every := make([]int, len(values)), make([]int, len(values))
		for i := range values {
			every[i], all[i] = i, nines[i]+1
			for _, n := range []int{nines[i] + 1, nines[i] + 9, nines[i] - 9, -1, 9, minInt, maxInt} {
				wrong := slices.Clone(nines)
				wrong[i] = n
				expectNumbers(t, fmt.Sprintf("WrongNines(%v, %v)", values, wrong), impl.WrongNines(values, wrong), []int{i})
			}
		}
		expectNumbers(t, call+" plus 1", impl.WrongNines(values, all), every)
		want := []int{}
		for i := range values {
			if nines[i] = throw(0, 8); nines[i] != modulo(values[i], 9) {
				want = append(want, i)
			}
		}
		expectNumbers(t, fmt.Sprintf("WrongNines(%v, %v)", values, nines), impl.WrongNines(values, nines), want)
	}
}

func TestKnownWrongNines(t *testing.T) {
	expectNumbers(t, "one wrong number", impl.WrongNines([]int{10, 20, 30}, []int{1, 3, 3}), []int{1})
	// The numbers of nines count as they stand, also where their remainders are
	// the right ones.
	expectNumbers(t, "nine for zero", impl.WrongNines([]int{9, 0, 18}, []int{9, 0, 0}), []int{0})
	expectNumbers(t, "numbers for remainders", impl.WrongNines([]int{10, -1, 4}, []int{10, -1, 4}), []int{0, 1})
	expectNumbers(t, "negative entries", impl.WrongNines([]int{-1, -9, -10}, []int{8, 0, 8}), nil)
}

func TestNoWrongNines(t *testing.T) {
	for _, values := range notTables() {
		expectNumbers(t, fmt.Sprintf("WrongNines(%v)", values), impl.WrongNines(values, make([]int, len(values))), nil)
		expectNumbers(t, fmt.Sprintf("WrongNines(%v)", values), impl.WrongNines(values, slices.Repeat([]int{-1}, len(values))), nil)
		expectNumbers(t, fmt.Sprintf("WrongNines(%v)", values), impl.WrongNines(values, []int{5}), nil)
	}
	for _, values := range someTables() {
		for _, length := range []int{0, 1, len(values) - 1, len(values) + 1, 60, 61, 100} {
			if length != len(values) {
				nines := slices.Repeat([]int{-1}, length)
				expectNumbers(t, fmt.Sprintf("WrongNines(%v, %v)", values, nines), impl.WrongNines(values, nines), nil)
			}
		}
		expectNumbers(t, fmt.Sprintf("WrongNines(%v, nil)", values), impl.WrongNines(values, nil), nil)
	}
}

// exchanged returns a number whose text has two digits exchanged.
func exchanged(n, place int) int {
	digits := []byte(fmt.Sprintf("%010d", n))
	low, high := 9-place, 8-place
	digits[low], digits[high] = digits[high], digits[low]
	result, _ := strconv.Atoi(string(digits))
	return result
}

func TestExchangeDigits(t *testing.T) {
	numbers := []int{0, 1, 5, 9, 10, 11, 12, 90, 99, 100, 1234, 4321, 123456789, 987654321, 900000000, 999999999, 1000000000, 100000001, 909090909}
	throw := dice(11)
	for range 200 {
		numbers = append(numbers, throw(0, 1000000000))
	}
	for _, n := range numbers {
		for place := range 9 {
			got, ok := impl.ExchangeDigits(n, place)
			call := fmt.Sprintf("ExchangeDigits(%d, %d)", n, place)
			if want := exchanged(n, place); got != want || !ok {
				t.Errorf("%s = %d, %v; want %d", call, got, ok, want)
			}
			// The difference is one that nines do not show.
			expectNumber(t, call+" modulo 9", modulo(got-n, 9), 0)
		}
		for _, place := range []int{-1, 9, 10, 100, minInt, maxInt} {
			expectNoExchange(t, n, place)
		}
	}
	for _, n := range []int{-1, -12, -1000000000, 1000000001, 1000000010, 2000000000, minInt, maxInt} {
		for place := -1; place <= 9; place++ {
			expectNoExchange(t, n, place)
		}
	}
}

func expectNoExchange(t *testing.T, n, place int) {
	t.Helper()
	if got, ok := impl.ExchangeDigits(n, place); got != 0 || ok {
		t.Errorf("ExchangeDigits(%d, %d) = %d, %v", n, place, got, ok)
	}
}

func TestKnownExchanges(t *testing.T) {
	for _, c := range []struct{ n, place, want int }{
		{1234, 0, 1243}, {1234, 1, 1324}, {1234, 2, 2134}, {1234, 3, 10234}, {1234, 4, 1234}, {5, 0, 50}, {50, 0, 5}, {0, 8, 0}, {7, 8, 7}, {33, 0, 33},
		{1000000000, 8, 100000000}, {1000000000, 7, 1000000000}, {100000000, 8, 1000000000}, {999999999, 8, 9099999999}, {900000000, 8, 9000000000}, {1000000000, 0, 1000000000},
	} {
		got, ok := impl.ExchangeDigits(c.n, c.place)
		if got != c.want || !ok {
			t.Errorf("ExchangeDigits(%d, %d) = %d, %v; want %d", c.n, c.place, got, ok, c.want)
		}
	}
}
