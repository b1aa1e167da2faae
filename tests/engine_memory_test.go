package tests

import (
	"fmt"
	"runtime"
	"slices"
	"sync"
	"testing"
	"testing/synctest"

	"loop.example/differenceengine/impl"
)

// guardedEngine returns a copy of an engine, and the memory that its columns
// are in, which has sentinels past their number.
func guardedEngine(e impl.Engine) (impl.Engine, []string) {
	memory := slices.Concat(e.Columns, []string{"sentinel", "sentinel", "sentinel", "sentinel", "sentinel", "sentinel", "sentinel", "sentinel"})
	return impl.Engine{Columns: memory[:len(e.Columns)]}, memory
}

// scribbleText writes over columns of a result, its unused capacity included.
func scribbleText(columns []string, text string) {
	columns = columns[:cap(columns)]
	for i := range columns {
		columns[i] = text
	}
}

// An engineProbe is a call of a function of the chapter with an engine; it
// returns the columns and the numbers of the result.
type engineProbe struct {
	name string
	call func(e impl.Engine) ([]string, []int)
}

// engineProbes has all functions of the chapter to which engines are passed.
func engineProbes() []engineProbe {
	probes := []engineProbe{
		{"EngineValid", func(e impl.Engine) ([]string, []int) { impl.EngineValid(e); return nil, nil }},
		{"FormatEngine", func(e impl.Engine) ([]string, []int) { impl.FormatEngine(e); return nil, nil }},
		{"CarriesOf", func(e impl.Engine) ([]string, []int) { return nil, []int{impl.CarriesOf(e)} }},
		{"ResultOf", func(e impl.Engine) ([]string, []int) { n, _ := impl.ResultOf(e); return nil, []int{n} }},
		{"ReadEngine", func(e impl.Engine) ([]string, []int) { p, _ := impl.ReadEngine(e); return nil, p }},
	}
	for _, c := range engineCalls() {
		probes = append(probes, engineProbe{c.name, func(e impl.Engine) ([]string, []int) { made, _ := c.call(e); return made.Columns, nil }})
	}
	for _, n := range []int{-1, 0, 1, 9, 60, 61, 301} {
		probes = append(probes,
			engineProbe{fmt.Sprintf("RunEngine, %d", n), func(e impl.Engine) ([]string, []int) { list, _ := impl.RunEngine(e, n); return nil, list }},
			engineProbe{fmt.Sprintf("RunHalves, %d", n), func(e impl.Engine) ([]string, []int) { list, _ := impl.RunHalves(e, n); return nil, list }},
			engineProbe{fmt.Sprintf("TurnMany, %d", n), func(e impl.Engine) ([]string, []int) { made, _ := impl.TurnMany(e, n); return made.Columns, nil }},
			engineProbe{fmt.Sprintf("WidenEngine, %d", n), func(e impl.Engine) ([]string, []int) { made, _ := impl.WidenEngine(e, n); return made.Columns, nil }},
		)
	}
	return probes
}

// memoryEngines are engines with all numbers of columns, and ones that are not
// valid.
func memoryEngines() []impl.Engine {
	engines := []impl.Engine{{}, engineOf("1", "22"), engineOf("x"), engineOf("0", "0", "0", "0", "0", "0", "0", "0")}
	for count := 1; count <= 7; count++ {
		engines = append(engines, engineOf([]string{"0967", "0035", "9999", "0001", "9500", "0000", "0007"}[:count]...), engineOf(slices.Repeat([]string{"3"}, count)...), engineOf(slices.Repeat([]string{"999999999998"}, count)...))
	}
	return engines
}

func TestEnginesStay(t *testing.T) {
	for _, probe := range engineProbes() {
		for _, e := range memoryEngines() {
			argument, memory := guardedEngine(e)
			before := slices.Clone(memory)
			columns, numbers := probe.call(argument)
			if !slices.Equal(memory, before) {
				t.Fatalf("%s of %s changes its argument or memory beyond it", probe.name, textOf(e))
			}
			scribbleText(columns, "scribble")
			scribble(numbers, 999)
			if !slices.Equal(memory, before) {
				t.Fatalf("a result of %s of %s shares memory with the argument", probe.name, textOf(e))
			}
		}
	}
}

func TestEngineResultsAreNew(t *testing.T) {
	for _, probe := range engineProbes() {
		for _, e := range memoryEngines() {
			columns, numbers := probe.call(e)
			before := fmt.Sprint(columns, numbers)
			otherColumns, otherNumbers := probe.call(e)
			scribbleText(otherColumns, "scribble")
			scribble(otherNumbers, 999)
			thirdColumns, thirdNumbers := probe.call(e)
			if fmt.Sprint(columns, numbers) != before || fmt.Sprint(thirdColumns, thirdNumbers) != before {
				t.Fatalf("results of %s of %s share memory, or state is kept", probe.name, textOf(e))
			}
		}
	}
}

// AddEngines has two arguments, which may be the same memory.
func TestAddedEnginesStay(t *testing.T) {
	for _, a := range memoryEngines() {
		for _, b := range memoryEngines() {
			first, firstMemory := guardedEngine(a)
			second, secondMemory := guardedEngine(b)
			firstBefore, secondBefore := slices.Clone(firstMemory), slices.Clone(secondMemory)
			sum, _ := impl.AddEngines(first, second)
			scribbleText(sum.Columns, "scribble")
			if !slices.Equal(firstMemory, firstBefore) || !slices.Equal(secondMemory, secondBefore) {
				t.Fatalf("AddEngines(%s, %s) changes an argument or shares its memory", textOf(a), textOf(b))
			}
		}
	}
}

func TestMadeEnginesAreNew(t *testing.T) {
	for _, text := range []string{"7", "0001 0002", "0008 0019 0018 0006", "1 2 3 4 5 6 7"} {
		first, _ := impl.ParseEngine(text)
		again, _ := impl.ParseEngine(text)
		scribbleText(again.Columns, "scribble")
		third, ok := impl.ParseEngine(text)
		if engineText(first) != text || engineText(third) != text || !ok {
			t.Errorf("results of ParseEngine(%q) share memory: %s, %s", text, textOf(first), textOf(third))
		}
	}
	for _, p := range memoryLists() {
		for _, n := range []int{0, 1, -3} {
			argument, memory := guarded(p)
			before := slices.Clone(memory)
			first, _ := impl.SetUp(argument, n, 4)
			text := engineText(first)
			again, _ := impl.SetUp(argument, n, 4)
			scribbleText(again.Columns, "scribble")
			impl.CapacityOf(argument, n, 4, 20)
			if !slices.Equal(memory, before) || engineText(first) != text {
				t.Errorf("SetUp or CapacityOf of %v at %d changes its argument, or results share memory", p, n)
			}
		}
	}
}

// allResults returns the results of all functions of the chapter for an engine.
func allResults(e impl.Engine) string {
	text := ""
	for _, probe := range engineProbes() {
		columns, numbers := probe.call(e)
		text += fmt.Sprintln(probe.name, columns, numbers)
	}
	return text
}

// A result is the same whether goroutines run one at a time or many at once,
// and while many calls for the same engine are under way.
func TestSchedulingIsNotSeen(t *testing.T) {
	engines := memoryEngines()
	before := runtime.GOMAXPROCS(1)
	defer runtime.GOMAXPROCS(before)
	wanted := []string{}
	for _, e := range engines {
		wanted = append(wanted, allResults(e))
	}
	for _, processors := range []int{1, 2, 3, 8, 32} {
		runtime.GOMAXPROCS(processors)
		var callers sync.WaitGroup
		for i, e := range engines {
			for range 3 {
				callers.Go(func() {
					if allResults(e) != wanted[i] {
						t.Errorf("with %d processors, a result for %s is another one", processors, textOf(e))
					}
				})
			}
		}
		callers.Wait()
	}
}

// Turns are right each time, as a sum that is read too early is not.
func TestManyTurnsAtOnce(t *testing.T) {
	e := engineOf("123456789012", "999999999999", "500000000000", "000000000001", "909090909090", "499999999999", "100000000000")
	want := turnedEngine(e, 300)
	halves := resultsInHalves(e, 60)
	var callers sync.WaitGroup
	for range 40 {
		callers.Go(func() {
			got, ok := impl.TurnMany(e, 300)
			expectEngine(t, "TurnMany by 300", got, ok, want)
			list, ok := impl.RunHalves(e, 60)
			expectList(t, "RunHalves, 60", list, ok, halves, true)
		})
	}
	callers.Wait()
}

// A goroutine that waits for ever after a call would be a deadlock here.
func TestNoGoroutineStays(t *testing.T) {
	for _, e := range memoryEngines() {
		synctest.Test(t, func(t *testing.T) { allResults(e) })
	}
}
