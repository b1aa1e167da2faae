package tests

import (
	"fmt"
	"testing"

	"loop.example/differenceengine/impl"
)

func TestShiftPoly(t *testing.T) {
	for _, p := range samplePolys() {
		for _, n := range arguments() {
			want := differencesOfValues(len(p), func(m int) int { return definedValue(p, m+n) })
			got, ok := impl.ShiftPoly(p, n)
			expectPoly(t, fmt.Sprintf("ShiftPoly(%v, %d)", p, n), got, ok, want)
		}
		for _, n := range notArguments {
			got, ok := impl.ShiftPoly(p, n)
			expectNone(t, fmt.Sprintf("ShiftPoly(%v, %d)", p, n), got, ok)
		}
	}
	for _, c := range []struct {
		p    []int
		n    int
		want []int
	}{
		{[]int{0, 1, 2}, 3, []int{9, 7, 2}}, {[]int{0, 1, 2}, -3, []int{9, -5, 2}}, {[]int{5, 0}, -200, []int{5, 0}}, {[]int{0, 0, 0}, 77, []int{0, 0, 0}},
		{[]int{99999, 1}, 1, []int{100000, 1}}, {[]int{99999, 1}, 2, nil}, {[]int{-99999, 1}, -1, []int{-100000, 1}}, {[]int{-99999, 1}, -2, nil},
		{[]int{0, 0, 500}, 200, nil}, {[]int{0, 500}, 200, []int{100000, 500}}, {[]int{0, 500}, -200, []int{-100000, 500}},
	} {
		got, ok := impl.ShiftPoly(c.p, c.n)
		expectPoly(t, fmt.Sprintf("ShiftPoly(%v, %d)", c.p, c.n), got, ok, c.want)
	}
}

func TestDifferencePoly(t *testing.T) {
	for _, p := range samplePolys() {
		want := append([]int{}, p[1:]...)
		if len(p) == 1 {
			want = []int{0}
		}
		got := impl.DifferencePoly(p)
		expectNumbers(t, fmt.Sprintf("DifferencePoly(%v)", p), got, want)
		for _, n := range arguments() {
			expectNumber(t, fmt.Sprintf("the value of DifferencePoly(%v) at %d", p, n), definedValue(got, n), definedValue(p, n+1)-definedValue(p, n))
		}
	}
	for _, p := range notPolys() {
		expectNumbers(t, fmt.Sprintf("DifferencePoly(%v)", p), impl.DifferencePoly(p), nil)
	}
}

func TestSumPoly(t *testing.T) {
	for _, p := range samplePolys() {
		for _, c := range []int{0, 1, -1, 4, 99999, 100000, -100000, 100001, -100001, minInt, maxInt} {
			got, ok := impl.SumPoly(p, c)
			expectPoly(t, fmt.Sprintf("SumPoly(%v, %d)", p, c), got, ok, append([]int{c}, p...))
		}
	}
	got, ok := impl.SumPoly([]int{0, 0, 0, 0, 0, 0, 0}, 0)
	expectNone(t, "SumPoly of seven zeros", got, ok)
	got, ok = impl.SumPoly([]int{1, 2, 3, 4, 5, 6}, 7)
	expectList(t, "SumPoly of six numbers", got, ok, []int{7, 1, 2, 3, 4, 5, 6}, true)
}

func TestAddPolys(t *testing.T) {
	for _, p := range samplePolys() {
		for _, q := range samplePolys() {
			want := differencesOfValues(max(len(p), len(q)), func(n int) int { return definedValue(p, n) + definedValue(q, n) })
			got, ok := impl.AddPolys(p, q)
			expectPoly(t, fmt.Sprintf("AddPolys(%v, %v)", p, q), got, ok, want)
		}
	}
	for _, c := range []struct{ p, q, want []int }{
		{[]int{0, 1, 2}, []int{1}, []int{1, 1, 2}}, {[]int{1}, []int{0, 1, 2}, []int{1, 1, 2}}, {[]int{0, 1, 2}, []int{0, -1, -2}, []int{0, 0, 0}},
		{[]int{0}, []int{0, 0, 0, 0, 0, 0, 0}, []int{0, 0, 0, 0, 0, 0, 0}}, {[]int{5, 99999}, []int{5, 1, 1}, []int{10, 100000, 1}},
		{[]int{5, 99999}, []int{5, 2, 1}, nil}, {[]int{-50000}, []int{-50000}, []int{-100000}}, {[]int{-50000}, []int{-50001}, nil},
	} {
		got, ok := impl.AddPolys(c.p, c.q)
		expectPoly(t, fmt.Sprintf("AddPolys(%v, %v)", c.p, c.q), got, ok, c.want)
	}
}

func TestScalePoly(t *testing.T) {
	for _, p := range samplePolys() {
		for _, k := range []int{0, 1, -1, 2, -2, 10, 333, -334, 99999, 100000, -100000} {
			want := differencesOfValues(len(p), func(n int) int { return k * definedValue(p, n) })
			got, ok := impl.ScalePoly(p, k)
			expectPoly(t, fmt.Sprintf("ScalePoly(%v, %d)", p, k), got, ok, want)
		}
		for _, k := range []int{100001, -100001, 1000000, minInt, maxInt, 1 << 62, 1 << 32} {
			got, ok := impl.ScalePoly(p, k)
			expectNone(t, fmt.Sprintf("ScalePoly(%v, %d)", p, k), got, ok)
		}
	}
	for _, c := range []struct {
		p    []int
		k    int
		want []int
	}{
		{[]int{0, 1, 2}, -2, []int{0, -2, -4}}, {[]int{0, 1, 2}, 0, []int{0, 0, 0}}, {[]int{1}, 100000, []int{100000}}, {[]int{0, -1}, -100000, []int{0, 100000}},
		{[]int{0, 2}, 50000, []int{0, 100000}}, {[]int{0, 2}, 50001, nil}, {[]int{0, 2}, -50001, nil}, {[]int{0, 0}, 100000, []int{0, 0}}, {[]int{0, 0}, 100001, nil},
	} {
		got, ok := impl.ScalePoly(c.p, c.k)
		expectPoly(t, fmt.Sprintf("ScalePoly(%v, %d)", c.p, c.k), got, ok, c.want)
	}
}

func TestMulPolys(t *testing.T) {
	for _, p := range samplePolys() {
		for _, q := range samplePolys() {
			var want []int
			if length := len(p) + len(q) - 1; length <= 7 {
				want = differencesOfValues(length, func(n int) int { return definedValue(p, n) * definedValue(q, n) })
			}
			got, ok := impl.MulPolys(p, q)
			expectPoly(t, fmt.Sprintf("MulPolys(%v, %v)", p, q), got, ok, want)
			for _, n := range []int{-200, -7, -1, 0, 9, 200} {
				if ok && definedValue(got, n) != definedValue(p, n)*definedValue(q, n) {
					t.Errorf("MulPolys(%v, %v) = %v is not the product at %d", p, q, got, n)
				}
			}
		}
	}
	for _, c := range []struct{ p, q, want []int }{
		{[]int{0, 1}, []int{0, 1, 2}, []int{0, 1, 6, 6}}, {[]int{0, 1}, []int{0, 1}, []int{0, 1, 2}}, {[]int{3}, []int{4}, []int{12}},
		{[]int{0}, []int{1, 2, 3}, []int{0, 0, 0}}, {[]int{0, 0}, []int{0, 0, 0, 0, 0, 0}, []int{0, 0, 0, 0, 0, 0, 0}}, {[]int{0, 0}, []int{0, 0, 0, 0, 0, 0, 0}, nil},
		{[]int{1, 0, 0, 0}, []int{1, 0, 0, 0, 0}, nil}, {[]int{1, 0, 0, 0}, []int{1, 0, 0, 0}, []int{1, 0, 0, 0, 0, 0, 0}}, {[]int{0}, []int{1, 2, 3, 4, 5, 6, 7}, []int{0, 0, 0, 0, 0, 0, 0}},
		{[]int{0, 1, 6, 6}, []int{0, 1, 6, 6}, []int{0, 1, 62, 540, 1560, 1800, 720}}, {[]int{250}, []int{-400}, []int{-100000}}, {[]int{250}, []int{401}, nil},
	} {
		got, ok := impl.MulPolys(c.p, c.q)
		expectPoly(t, fmt.Sprintf("MulPolys(%v, %v)", c.p, c.q), got, ok, c.want)
	}
}

func TestStepPoly(t *testing.T) {
	for _, p := range samplePolys() {
		for m := 1; m <= 10; m++ {
			want := differencesOfValues(len(p), func(n int) int { return definedValue(p, m*n) })
			got, ok := impl.StepPoly(p, m)
			expectPoly(t, fmt.Sprintf("StepPoly(%v, %d)", p, m), got, ok, want)
			for n := -20; n <= 20; n++ {
				if ok && definedValue(got, n) != definedValue(p, m*n) {
					t.Errorf("StepPoly(%v, %d) = %v is wrong at %d", p, m, got, n)
				}
			}
		}
		for _, m := range []int{0, -1, -2, -10, 11, 12, 20, minInt, maxInt} {
			got, ok := impl.StepPoly(p, m)
			expectNone(t, fmt.Sprintf("StepPoly(%v, %d)", p, m), got, ok)
		}
	}
	for _, c := range []struct {
		p    []int
		m    int
		want []int
	}{
		{[]int{0, 1, 2}, 2, []int{0, 4, 8}}, {[]int{0, 1, 2}, 1, []int{0, 1, 2}}, {[]int{7, 3}, 10, []int{7, 30}}, {[]int{0, 10000, 0}, 10, []int{0, 100000, 0}},
		{[]int{0, 10001}, 10, nil}, {[]int{0, -10000}, 10, []int{0, -100000}}, {[]int{0, 0, 0, 0, 0, 0, 1}, 10, nil}, {[]int{0, 0}, 10, []int{0, 0}},
	} {
		got, ok := impl.StepPoly(c.p, c.m)
		expectPoly(t, fmt.Sprintf("StepPoly(%v, %d)", c.p, c.m), got, ok, c.want)
	}
}

func TestTurnPoly(t *testing.T) {
	for _, p := range samplePolys() {
		want := differencesOfValues(len(p), func(n int) int { return definedValue(p, -n) })
		got, ok := impl.TurnPoly(p)
		expectPoly(t, fmt.Sprintf("TurnPoly(%v)", p), got, ok, want)
		for n := -20; n <= 20; n++ {
			if ok && definedValue(got, n) != definedValue(p, -n) {
				t.Errorf("TurnPoly(%v) = %v is wrong at %d", p, got, n)
			}
		}
	}
	for _, c := range []struct{ p, want []int }{
		{[]int{1, 1}, []int{1, -1}}, {[]int{0, 1, 2}, []int{0, 1, 2}}, {[]int{5}, []int{5}}, {[]int{0, 0, 0}, []int{0, 0, 0}}, {[]int{0, 1, 0}, []int{0, -1, 0}},
		{[]int{0, 0, 100000}, []int{0, 100000, 100000}}, {[]int{0, -1, 100000}, nil}, {[]int{0, 0, 0, 50000}, []int{0, -50000, -100000, -50000}}, {[]int{0, 0, 0, 50001}, nil},
	} {
		got, ok := impl.TurnPoly(c.p)
		expectPoly(t, fmt.Sprintf("TurnPoly(%v)", c.p), got, ok, c.want)
	}
}

func TestFromPowers(t *testing.T) {
	for _, c := range samplePolys() {
		want := differencesOfValues(len(c), func(n int) int { return powerSum(c, n) })
		got, ok := impl.FromPowers(c)
		expectPoly(t, fmt.Sprintf("FromPowers(%v)", c), got, ok, want)
		for n := -20; n <= 20; n++ {
			if ok && definedValue(got, n) != powerSum(c, n) {
				t.Errorf("FromPowers(%v) = %v is wrong at %d", c, got, n)
			}
		}
	}
	for _, c := range []struct{ c, want []int }{
		{[]int{0, 0, 1}, []int{0, 1, 2}}, {[]int{0, 0, 0, 1}, []int{0, 1, 6, 6}}, {[]int{41, 1, 1}, []int{41, 2, 2}}, {[]int{5, 0, 0}, []int{5, 0, 0}},
		{[]int{0, 0, 0, 0, 0, 0, 1}, []int{0, 1, 62, 540, 1560, 1800, 720}}, {[]int{0, 0, 0, 0, 0, 0, 55}, []int{0, 55, 3410, 29700, 85800, 99000, 39600}},
		{[]int{0, 0, 0, 0, 0, 0, 56}, nil}, {[]int{0}, []int{0}}, {[]int{-100000, 100000}, []int{-100000, 100000}}, {[]int{0, 0, 50000}, []int{0, 50000, 100000}},
		{[]int{0, 0, 50001}, nil}, {[]int{0, 0, 100000}, nil}, {[]int{0, 0, 0}, []int{0, 0, 0}},
	} {
		got, ok := impl.FromPowers(c.c)
		expectPoly(t, fmt.Sprintf("FromPowers(%v)", c.c), got, ok, c.want)
	}
}

func TestPowersOf(t *testing.T) {
	for _, p := range samplePolys() {
		c := impl.PowersOf(p)
		expectNumber(t, fmt.Sprintf("the length of PowersOf(%v)", p), len(c), len(p))
		for _, n := range arguments() {
			expectNumber(t, fmt.Sprintf("the sum of powers by PowersOf(%v) at %d", p, n), powerSum(c, n), 720*definedValue(p, n))
		}
	}
	for _, p := range notPolys() {
		expectNumbers(t, fmt.Sprintf("PowersOf(%v)", p), impl.PowersOf(p), nil)
	}
	for _, c := range []struct{ p, want []int }{
		{[]int{0, 1, 2}, []int{0, 0, 720}}, {[]int{3}, []int{2160}}, {[]int{0, 0, 1}, []int{0, -360, 360}}, {[]int{0, 0}, []int{0, 0}}, {[]int{4, 0, 0}, []int{2880, 0, 0}},
		{[]int{0, 0, 0, 0, 0, 0, 1}, []int{0, -120, 274, -225, 85, -15, 1}}, {[]int{-100000, 100000}, []int{-72000000, 72000000}},
	} {
		expectNumbers(t, fmt.Sprintf("PowersOf(%v)", c.p), impl.PowersOf(c.p), c.want)
	}
}

// PowersOf undoes FromPowers, but for the factor.
func TestPowersBothWays(t *testing.T) {
	for _, c := range samplePolys() {
		p, ok := impl.FromPowers(c)
		if !ok {
			continue
		}
		want := []int{}
		for _, coefficient := range c {
			want = append(want, 720*coefficient)
		}
		expectNumbers(t, fmt.Sprintf("PowersOf(%v)", p), impl.PowersOf(p), want)
	}
}

func TestNoPolys(t *testing.T) {
	squares := []int{0, 1, 2}
	for _, p := range notPolys() {
		for _, n := range []int{0, 1, -1, 10, 200, 201, 100001, minInt, maxInt} {
			got, ok := impl.ShiftPoly(p, n)
			expectNone(t, fmt.Sprintf("ShiftPoly(%v, %d)", p, n), got, ok)
			got, ok = impl.SumPoly(p, n)
			expectNone(t, fmt.Sprintf("SumPoly(%v, %d)", p, n), got, ok)
			got, ok = impl.ScalePoly(p, n)
			expectNone(t, fmt.Sprintf("ScalePoly(%v, %d)", p, n), got, ok)
			got, ok = impl.StepPoly(p, n)
			expectNone(t, fmt.Sprintf("StepPoly(%v, %d)", p, n), got, ok)
		}
		for _, q := range [][]int{squares, {0}, p, nil} {
			for _, pair := range [][2][]int{{p, q}, {q, p}} {
				got, ok := impl.AddPolys(pair[0], pair[1])
				expectNone(t, fmt.Sprintf("AddPolys(%v, %v)", pair[0], pair[1]), got, ok)
				got, ok = impl.MulPolys(pair[0], pair[1])
				expectNone(t, fmt.Sprintf("MulPolys(%v, %v)", pair[0], pair[1]), got, ok)
			}
		}
		got, ok := impl.TurnPoly(p)
		expectNone(t, fmt.Sprintf("TurnPoly(%v)", p), got, ok)
		got, ok = impl.FromPowers(p)
		expectNone(t, fmt.Sprintf("FromPowers(%v)", p), got, ok)
	}
}
