package tests

import (
	"fmt"
	"math/big"
	"slices"
	"testing"

	"loop.example/differenceengine/impl"
)

// The helpers here follow the definitions of the document, with big numbers,
// and not the program's own way.

// chosen returns n (n-1) .. (n-k+1) divided by 1 2 .. k.
func chosen(n, k int) *big.Int {
	product, divisor := big.NewInt(1), big.NewInt(1)
	for i := range k {
		product.Mul(product, big.NewInt(int64(n-i)))
		divisor.Mul(divisor, big.NewInt(int64(i+1)))
	}
	quotient, rest := new(big.Int).QuoRem(product, divisor, new(big.Int))
	if rest.Sign() != 0 {
		panic(fmt.Sprintf("%d over %d is not whole", n, k))
	}
	return quotient
}

// toInt returns a big number as an int, which it has to fit in.
func toInt(n *big.Int) int {
	if !n.IsInt64() {
		panic("too great for a test: " + n.String())
	}
	return int(n.Int64())
}

// definedValue returns the sum of p[k] times n over k.
func definedValue(p []int, n int) int {
	sum := new(big.Int)
	for k, difference := range p {
		sum.Add(sum, new(big.Int).Mul(big.NewInt(int64(difference)), chosen(n, k)))
	}
	return toInt(sum)
}

// powerSum returns the sum of c[i] times n to the power of i.
func powerSum(c []int, n int) int {
	sum := new(big.Int)
	for i, coefficient := range c {
		power := new(big.Int).Exp(big.NewInt(int64(n)), big.NewInt(int64(i)), nil)
		sum.Add(sum, power.Mul(power, big.NewInt(int64(coefficient))))
	}
	return toInt(sum)
}

// definedDifference returns the difference of an order of values, beginning at
// an index: the sum of all values with the signs and numbers of choices.
func definedDifference(values []int, order, at int) int {
	sum := new(big.Int)
	for j := range order + 1 {
		term := chosen(order, j)
		term.Mul(term, big.NewInt(int64(values[at+j])))
		if (order-j)%2 == 1 {
			term.Neg(term)
		}
		sum.Add(sum, term)
	}
	return toInt(sum)
}

// differencesOfValues returns the differences at 0 of a polynomial of a length,
// of which see tells the values.
func differencesOfValues(length int, see func(n int) int) []int {
	values, p := []int{}, []int{}
	for n := range length {
		values = append(values, see(n))
		p = append(p, definedDifference(values, n, 0))
	}
	return p
}

// isPoly reports what the document calls a polynomial.
func isPoly(p []int) bool {
	for _, n := range p {
		if n < -100000 || n > 100000 {
			return false
		}
	}
	return len(p) >= 1 && len(p) <= 7
}

// isTable reports what the document calls a table.
func isTable(values []int) bool {
	for _, n := range values {
		if n < -1000000000 || n > 1000000000 {
			return false
		}
	}
	return len(values) >= 1 && len(values) <= 60
}

// dice returns a function whose results look random, the same ones in each run.
func dice(seed uint64) func(least, most int) int {
	return func(least, most int) int {
		seed = seed*6364136223846793005 + 1442695040888963407
		return least + int((seed>>33)%uint64(most-least+1))
	}
}

// samplePolys are polynomials of all lengths: zeros, ordinary ones, ones with
// zeros at the end or at the beginning, and ones at the limits.
func samplePolys() [][]int {
	polys := [][]int{{0, 1, 2}, {0, 1, 6, 6}, {41, 2, 2}, {7, -3}, {5, 0, 0}, {0, 0, 4, 0, 0, 0, 0}, {-1, 1, -1, 1, -1, 1, -1}, {1, 2, 3, 4, 5, 6, 7}, {0, 0, 0, 0, 0, 0, 1}}
	throw := dice(2)
	for length := 1; length <= 7; length++ {
		most, least, mixed, last := make([]int, length), make([]int, length), make([]int, length), make([]int, length)
		for k := range length {
			most[k], least[k], mixed[k] = 100000, -100000, 100000-200000*(k%2)
		}
		last[length-1] = 1
		polys = append(polys, make([]int, length), most, least, mixed, last)
		for _, bound := range []int{2, 9, 300, 100000} {
			p := make([]int, length)
			for k := range length {
				p[k] = throw(-bound, bound)
			}
			polys = append(polys, p)
		}
	}
	return polys
}

// notPolys are slices that are not polynomials: too few or too many numbers, or
// one that is too great, in each place.
func notPolys() [][]int {
	lists := [][]int{nil, {}, make([]int, 8), {1, 2, 3, 4, 5, 6, 7, 8}, make([]int, 60), make([]int, 1000)}
	for length := 1; length <= 7; length++ {
		for place := range length {
			for _, n := range []int{100001, -100001, minInt, maxInt} {
				p := make([]int, length)
				p[place] = n
				lists = append(lists, p)
			}
		}
	}
	return lists
}

// notTables are slices that are not tables.
func notTables() [][]int {
	lists := [][]int{nil, {}, make([]int, 61), make([]int, 1000)}
	for _, length := range []int{1, 2, 7, 30, 60} {
		for _, place := range []int{0, length / 2, length - 1} {
			for _, n := range []int{1000000001, -1000000001, minInt, maxInt} {
				values := make([]int, length)
				values[place] = n
				lists = append(lists, values)
			}
		}
	}
	return lists
}

// arguments are some arguments: the bounds, and all near 0.
func arguments() []int {
	list := []int{-200, -199, -101, -57, 33, 100, 199, 200}
	for n := -12; n <= 12; n++ {
		list = append(list, n)
	}
	return list
}

// notArguments are numbers that are not arguments.
var notArguments = []int{201, -201, 202, 1000, -1000, minInt, minInt + 1, maxInt}

// expectList fails unless a call returned the wanted numbers and verdict.
func expectList(t *testing.T, call string, got []int, ok bool, want []int, wantOK bool) {
	t.Helper()
	if !slices.Equal(got, want) || ok != wantOK {
		t.Errorf("%s = %v, %v; want %v, %v", call, got, ok, want, wantOK)
	}
}

// expectNumbers fails unless a call returned the wanted numbers.
func expectNumbers(t *testing.T, call string, got []int, want []int) {
	t.Helper()
	expectList(t, call, got, true, want, true)
}

// expectNone fails unless a call returned an empty slice and false.
func expectNone(t *testing.T, call string, got []int, ok bool) {
	t.Helper()
	expectList(t, call, got, ok, nil, false)
}

// expectPoly fails unless a call returned the wanted polynomial, or nothing if
// that would not be valid.
func expectPoly(t *testing.T, call string, got []int, ok bool, want []int) {
	t.Helper()
	if !isPoly(want) {
		expectNone(t, call, got, ok)
		return
	}
	expectList(t, call, got, ok, want, true)
}

// rowFrom returns values of a polynomial as a test expects them.
func rowFrom(p []int, from, count int) []int {
	row := []int{}
	for i := range count {
		row = append(row, definedValue(p, from+i))
	}
	return row
}

func TestPolyLimits(t *testing.T) {
	const (
		degree      = impl.MaxDegree
		coefficient = impl.MaxCoefficient
		argument    = impl.MaxArgument
		table       = impl.MaxTable
		entry       = impl.MaxEntry
		common      = impl.Common
	)
	expectNumbers(t, "the limits", []int{degree, coefficient, argument, table, entry, common}, []int{6, 100000, 200, 60, 1000000000, 720})
}
