package tests

import (
	"fmt"
	"testing"

	"loop.example/differenceengine/impl"
)

func TestTurns(t *testing.T) {
	for _, e := range sampleEngines() {
		got, ok := impl.TurnWhole(e)
		expectEngine(t, "TurnWhole of "+textOf(e), got, ok, turnedEngine(e, 1))
		got, ok = impl.TurnBack(e)
		expectEngine(t, "TurnBack of "+textOf(e), got, ok, turnedEngine(e, -1))
		for _, n := range []int{0, 1, -1, 2, -2, 3, 10, -10, 99, -100, 299, 300, -299, -300} {
			got, ok := impl.TurnMany(e, n)
			expectEngine(t, fmt.Sprintf("TurnMany(%s, %d)", textOf(e), n), got, ok, turnedEngine(e, n))
		}
	}
}

// What a turn does, a turn back undoes, and the other way round.
func TestTurnedBack(t *testing.T) {
	for _, e := range sampleEngines() {
		forth, _ := impl.TurnWhole(e)
		got, ok := impl.TurnBack(forth)
		expectEngine(t, "TurnBack of TurnWhole of "+textOf(e), got, ok, e)
		back, _ := impl.TurnBack(e)
		got, ok = impl.TurnWhole(back)
		expectEngine(t, "TurnWhole of TurnBack of "+textOf(e), got, ok, e)
		for _, n := range []int{5, -5, 300, -300} {
			far, _ := impl.TurnMany(e, n)
			got, ok = impl.TurnMany(far, -n)
			expectEngine(t, fmt.Sprintf("TurnMany by %d and by %d of %s", n, -n, textOf(e)), got, ok, e)
		}
	}
}

func TestNoTurns(t *testing.T) {
	for _, n := range notTurns {
		for _, e := range []impl.Engine{engineOf("7"), engineOf("0001", "0002"), {}, engineOf("1", "22")} {
			got, ok := impl.TurnMany(e, n)
			expectNoEngine(t, fmt.Sprintf("TurnMany(%s, %d)", textOf(e), n), got, ok)
		}
	}
	for _, e := range notEngines() {
		for _, c := range engineCalls() {
			got, ok := c.call(e)
			expectNoEngine(t, c.name+" of "+textOf(e), got, ok)
		}
	}
}

func TestHalves(t *testing.T) {
	for _, e := range sampleEngines() {
		first, ok := impl.TurnFirst(e)
		expectEngine(t, "TurnFirst of "+textOf(e), first, ok, halfTurned(e, 0))
		second, ok := impl.TurnSecond(e)
		expectEngine(t, "TurnSecond of "+textOf(e), second, ok, halfTurned(e, 1))
		both, ok := impl.TurnHalves(e)
		expectEngine(t, "TurnHalves of "+textOf(e), both, ok, halfTurned(halfTurned(e, 0), 1))
	}
}

func TestSkewing(t *testing.T) {
	for _, e := range sampleEngines() {
		skewed, ok := impl.SkewEngine(e)
		expectEngine(t, "SkewEngine of "+textOf(e), skewed, ok, skewedEngine(e))
		got, ok := impl.UnskewEngine(skewed)
		expectEngine(t, "UnskewEngine of SkewEngine of "+textOf(e), got, ok, e)
		unskewed, ok := impl.UnskewEngine(e)
		if !ok || engineText(skewedEngine(unskewed)) != engineText(e) {
			t.Errorf("UnskewEngine of %s = %s, %v; askew it is another one", textOf(e), textOf(unskewed), ok)
		}
	}
}

// An engine askew that turns in halves is, after each turn, the engine askew
// that made a whole turn.
func TestHalvesMakeWholeTurns(t *testing.T) {
	for _, e := range sampleEngines() {
		askew, _ := impl.SkewEngine(e)
		for n := 1; n <= 8; n++ {
			askew, _ = impl.TurnHalves(askew)
			got, ok := impl.UnskewEngine(askew)
			expectEngine(t, fmt.Sprintf("%d turns in halves of %s", n, textOf(e)), got, ok, turnedEngine(e, n))
		}
	}
}

// Known turns, so that no mistake of the helpers is the program's too.
func TestKnownTurns(t *testing.T) {
	for _, c := range []struct {
		name       string
		call       func(e impl.Engine) (impl.Engine, bool)
		from, want string
	}{
		{"TurnWhole", impl.TurnWhole, "0008 0019 0018 0006", "0027 0037 0024 0006"},
		{"TurnBack", impl.TurnBack, "0027 0037 0024 0006", "0008 0019 0018 0006"},
		{"SkewEngine", impl.SkewEngine, "0008 0019 0018 0006", "0008 0019 0012 0006"},
		{"UnskewEngine", impl.UnskewEngine, "0008 0019 0012 0006", "0008 0019 0018 0006"},
		{"TurnFirst", impl.TurnFirst, "0008 0019 0012 0006", "0027 0019 0018 0006"},
		{"TurnSecond", impl.TurnSecond, "0027 0019 0018 0006", "0027 0037 0018 0006"},
		{"TurnHalves", impl.TurnHalves, "0008 0019 0012 0006", "0027 0037 0018 0006"},
		{"TurnWhole", impl.TurnWhole, "1 1 1 1 1 1 1", "2 2 2 2 2 2 1"},
		{"TurnHalves", impl.TurnHalves, "1 1 1 1 1 1 1", "2 3 2 3 2 2 1"},
		{"TurnFirst", impl.TurnFirst, "1 1 1 1 1 1 1", "2 1 2 1 2 1 1"},
		{"TurnSecond", impl.TurnSecond, "1 1 1 1 1 1 1", "1 2 1 2 1 2 1"},
		{"TurnBack", impl.TurnBack, "1 1 1 1 1 1 1", "1 0 1 0 1 0 1"},
		{"SkewEngine", impl.SkewEngine, "0 0 0 0 0 0 1", "0 0 1 9 3 8 1"},
		{"TurnWhole with a negative difference", impl.TurnWhole, "03 95 99", "98 94 99"},
		{"TurnBack with a negative difference", impl.TurnBack, "98 94 99", "03 95 99"},
		{"TurnWhole over the bound", impl.TurnWhole, "49 01", "50 01"},
		{"TurnWhole over the top", impl.TurnWhole, "99 99", "98 99"},
		{"TurnBack below zero", impl.TurnBack, "000000000000 000000000001", "999999999999 000000000001"},
		{"TurnWhole of one column", impl.TurnWhole, "7", "7"},
		{"TurnBack of one column", impl.TurnBack, "0123", "0123"},
		{"TurnFirst of one column", impl.TurnFirst, "5", "5"},
		{"TurnSecond of one column", impl.TurnSecond, "5", "5"},
		{"TurnSecond of two columns", impl.TurnSecond, "5 3", "5 3"},
		{"TurnFirst of two columns", impl.TurnFirst, "5 3", "8 3"},
		{"TurnHalves of one column", impl.TurnHalves, "000000000009", "000000000009"},
		{"SkewEngine of one column", impl.SkewEngine, "9", "9"},
		{"SkewEngine of two columns", impl.SkewEngine, "9 1", "9 1"},
		{"SkewEngine of three columns", impl.SkewEngine, "9 1 4", "9 1 4"},
		{"UnskewEngine of one column", impl.UnskewEngine, "9", "9"},
	} {
		from, _ := impl.ParseEngine(c.from)
		want, _ := impl.ParseEngine(c.want)
		got, ok := c.call(from)
		expectEngine(t, c.name+" of "+c.from, got, ok, want)
	}
}
