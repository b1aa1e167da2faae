package tests

import (
	"fmt"
	"slices"
	"strings"
	"testing"
	"testing/synctest"

	"loop.example/differenceengine/impl"
)

// A pairArguments has arguments for each function of the chapter.
type pairArguments struct {
	a, b    impl.Engine
	list    []impl.Engine
	p, q, r []int
}

// A pairMemory has copies of arguments, and all the memory that these are in,
// which has sentinels past the length of each slice.
type pairMemory struct {
	arguments pairArguments
	columns   [][]string
	engines   []impl.Engine
	numbers   [][]int
}

func (m *pairMemory) engine(e impl.Engine) impl.Engine {
	copied, memory := guardedEngine(e)
	m.columns = append(m.columns, memory)
	return copied
}

func (m *pairMemory) list(list []int) []int {
	copied, memory := guarded(list)
	m.numbers = append(m.numbers, memory)
	return copied
}

func guardedArguments(arguments pairArguments) *pairMemory {
	m := &pairMemory{}
	m.arguments = pairArguments{a: m.engine(arguments.a), b: m.engine(arguments.b), p: m.list(arguments.p), q: m.list(arguments.q), r: m.list(arguments.r)}
	for _, e := range arguments.list {
		m.engines = append(m.engines, m.engine(e))
	}
	m.engines = slices.Concat(m.engines, slices.Repeat([]impl.Engine{engineOf("sentinel")}, 8))
	m.arguments.list = m.engines[:len(arguments.list)]
	return m
}

// content returns all that is in the memory.
func (m *pairMemory) content() string { return fmt.Sprint(m.columns, m.engines, m.numbers) }

// A pairResult has the engines and the lists of numbers of a result.
type pairResult struct {
	engines []impl.Engine
	numbers [][]int
}

// scribbles returns, for each slice of a result but that of the engines themselves,
// a function that writes over it, its unused capacity included.
func (r pairResult) scribbles() []func() {
	all := []func(){}
	for _, e := range r.engines {
		all = append(all, func() { scribbleText(e.Columns, "scribble") })
	}
	for _, list := range r.numbers {
		all = append(all, func() { scribble(list, 999) })
	}
	return all
}

func (r pairResult) scribble() {
	for _, write := range r.scribbles() {
		write()
	}
	engines := r.engines[:cap(r.engines)]
	for i := range engines {
		engines[i] = engineOf("scribble")
	}
}

// texts returns the text of each slice of a result, in the order of scribbles.
func (r pairResult) texts() []string {
	all := []string{}
	for _, e := range r.engines {
		all = append(all, textOf(e))
	}
	for _, list := range r.numbers {
		all = append(all, fmt.Sprint(list))
	}
	return all
}

// A pairProbe is a call of a function of the chapter with some of the arguments.
type pairProbe struct {
	name string
	call func(a pairArguments) pairResult
}

func ofEngine(e impl.Engine, _ bool) pairResult { return pairResult{engines: []impl.Engine{e}} }

func ofEngines(a, b impl.Engine, _ bool) pairResult {
	return pairResult{engines: []impl.Engine{a, b}}
}

func ofMany(list []impl.Engine, _ bool) pairResult { return pairResult{engines: list} }

func ofNumber(n int, _ bool) pairResult { return pairResult{numbers: [][]int{{n}}} }

func ofNumbers(list []int, _ bool) pairResult { return pairResult{numbers: [][]int{list}} }

func ofLists(p, q []int) pairResult { return pairResult{numbers: [][]int{p, q}} }

// pairProbes has all functions of the chapter, with numbers for which a result
// could be the argument itself, and others.
func pairProbes() []pairProbe {
	probes := []pairProbe{
		{"JoinEngines", func(a pairArguments) pairResult { return ofEngine(impl.JoinEngines(a.a, a.b)) }},
		{"JoinEngines of an engine and itself", func(a pairArguments) pairResult { return ofEngine(impl.JoinEngines(a.a, a.a)) }},
		{"CascadeTurn", func(a pairArguments) pairResult { return ofEngines(impl.CascadeTurn(a.a, a.b)) }},
		{"CascadeTurn of an engine and itself", func(a pairArguments) pairResult { return ofEngines(impl.CascadeTurn(a.a, a.a)) }},
		{"Interleave", func(a pairArguments) pairResult { return ofNumbers(impl.Interleave(a.p, a.q)) }},
		{"Interleave of a list and itself", func(a pairArguments) pairResult { return ofNumbers(impl.Interleave(a.p, a.p)) }},
		{"Interleave of a list and none", func(a pairArguments) pairResult { return ofNumbers(impl.Interleave(a.p, nil)) }},
		{"DealTable", func(a pairArguments) pairResult { return ofLists(impl.DealTable(a.p)) }},
		{"RunParts", func(a pairArguments) pairResult { return ofNumbers(impl.RunParts(a.list, a.p)) }},
		{"Vote", func(a pairArguments) pairResult { return ofNumbers(impl.Vote(a.p, a.q, a.r)) }},
		{"Vote of a list and itself", func(a pairArguments) pairResult { return ofNumbers(impl.Vote(a.p, a.p, a.p)) }},
		{"FaultyOne", func(a pairArguments) pairResult { return ofNumber(impl.FaultyOne(a.p, a.q, a.r), true) }},
		{"FaultyOne of a list and itself", func(a pairArguments) pairResult { return ofNumber(impl.FaultyOne(a.p, a.p, a.p), true) }},
	}
	for _, n := range []int{-1, 0, 1, 2, 3, 9, 11, 60, 61} {
		named := func(name string) string { return fmt.Sprintf("%s, %d", name, n) }
		probes = append(probes,
			pairProbe{named("SplitEngine"), func(a pairArguments) pairResult { return ofEngines(impl.SplitEngine(a.a, n)) }},
			pairProbe{named("RunCascade"), func(a pairArguments) pairResult { return ofNumbers(impl.RunCascade(a.a, a.b, n)) }},
			pairProbe{named("SumEngine"), func(a pairArguments) pairResult { return ofEngine(impl.SumEngine(a.a, n)) }},
			pairProbe{named("TotalOf"), func(a pairArguments) pairResult { return ofNumber(impl.TotalOf(a.a, n)) }},
			pairProbe{named("QuarterSquare"), func(a pairArguments) pairResult { return ofNumber(impl.QuarterSquare(n), true) }},
			pairProbe{named("QuarterTable"), func(a pairArguments) pairResult { return ofNumbers(impl.QuarterTable(n), true) }},
			pairProbe{named("ProductOf"), func(a pairArguments) pairResult { return ofNumber(impl.ProductOf(a.p, n, 1)) }},
			pairProbe{named("StepEngines"), func(a pairArguments) pairResult { return ofMany(impl.StepEngines(a.p, 1, n, 6)) }},
			pairProbe{named("StepEngines from there"), func(a pairArguments) pairResult { return ofMany(impl.StepEngines(a.p, n, 1, 6)) }},
			pairProbe{named("RunSteps"), func(a pairArguments) pairResult { return ofNumbers(impl.RunSteps(a.list, n)) }},
			pairProbe{named("PartEngines"), func(a pairArguments) pairResult { return ofMany(impl.PartEngines(a.p, n, a.q, 6)) }},
		)
	}
	return probes
}

// eachPairArguments calls see for arguments of all kinds: engines and lists that
// go together and ones that do not, and ones that are not valid.
func eachPairArguments(see func(a pairArguments)) {
	engines, lists := memoryEngines(), memoryLists()
	sharing := append(sharingEngines(), nil, []impl.Engine{{}}, slices.Repeat([]impl.Engine{engineOf("7")}, 11))
	for i := range max(len(engines)*2, len(lists)*2, len(sharing)) {
		e, p := engines[i%len(engines)], lists[i%len(lists)]
		for _, b := range []impl.Engine{engineOf("0035"), engineOf("4"), engineOf("0001", "0002"), e} {
			a := pairArguments{a: e, b: b, list: sharing[i%len(sharing)], p: p, q: slices.Clone(p), r: slices.Clone(p)}
			see(a)
			a.q, a.r = lists[(i*7+3)%len(lists)], lists[(i*5+1)%len(lists)]
			see(a)
			a.p, a.q = make([]int, len(a.list)), []int{2, 0, 3}
			see(a)
		}
	}
	for _, sizes := range [][]int{{60}, {0}, {2, 3}, {1, 1, 1, 1, 1, 1, 1, 1, 1, 1}, {61}} {
		see(pairArguments{a: engineOf("1"), b: engineOf("2"), list: slices.Repeat([]impl.Engine{engineOf("12", "03")}, len(sizes)), p: sizes, q: sizes, r: sizes})
	}
}

func TestPairArgumentsStay(t *testing.T) {
	probes := pairProbes()
	eachPairArguments(func(a pairArguments) {
		m := guardedArguments(a)
		before := m.content()
		for _, probe := range probes {
			result := probe.call(m.arguments)
			if m.content() != before {
				t.Fatalf("%s of %v changes an argument or memory beyond it", probe.name, a)
			}
			result.scribble()
			if m.content() != before {
				t.Fatalf("a result of %s of %v shares memory with an argument", probe.name, a)
			}
		}
	})
}

func TestPairResultsAreNew(t *testing.T) {
	probes := pairProbes()
	eachPairArguments(func(a pairArguments) {
		for _, probe := range probes {
			result := probe.call(a)
			before := fmt.Sprint(result)
			probe.call(a).scribble()
			if fmt.Sprint(result) != before || fmt.Sprint(probe.call(a)) != before {
				t.Fatalf("results of %s of %v share memory, or state is kept", probe.name, a)
			}
		}
	})
}

// No two slices of one result share memory, their unused capacity included.
func TestSlicesOfAPairResult(t *testing.T) {
	probes := pairProbes()
	eachPairArguments(func(a pairArguments) {
		for _, probe := range probes {
			result := probe.call(a)
			before := result.texts()
			for i, write := range result.scribbles() {
				write()
				if !slices.Equal(result.texts()[i+1:], before[i+1:]) {
					t.Fatalf("slices of the result of %s of %v share memory", probe.name, a)
				}
			}
			result = probe.call(a)
			for i, write := range slices.Backward(result.scribbles()) {
				write()
				if !slices.Equal(result.texts()[:i], before[:i]) {
					t.Fatalf("slices of the result of %s of %v share memory", probe.name, a)
				}
			}
		}
	})
}

// allPairResults returns the results of all functions of the chapter.
func allPairResults() string {
	var text strings.Builder
	probes := pairProbes()
	eachPairArguments(func(a pairArguments) {
		for _, probe := range probes {
			fmt.Fprintln(&text, probe.name, probe.call(a))
		}
	})
	return text.String()
}

func TestSchedulingIsNotSeenInPairs(t *testing.T) {
	expectSameWhenScheduled(t, 4, allPairResults)
}

// A goroutine that waits for ever after a call would be a deadlock here.
func TestNoGoroutineStaysAfterPairs(t *testing.T) {
	synctest.Test(t, func(t *testing.T) { allPairResults() })
}
