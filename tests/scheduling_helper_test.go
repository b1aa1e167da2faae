package tests

import (
	"runtime"
	"sync"
	"testing"
)

// expectSameWhenScheduled fails unless calls that write all their results into a
// text return the same one whether goroutines run one at a time or many at once,
// and while many calls are under way; and the same one each time, as they would
// not if a result depended on the order of a map.
func expectSameWhenScheduled(t *testing.T, callers int, call func() string) {
	t.Helper()
	before := runtime.GOMAXPROCS(1)
	defer runtime.GOMAXPROCS(before)
	wanted := call()
	for _, processors := range []int{1, 2, 8, 32} {
		runtime.GOMAXPROCS(processors)
		var calls sync.WaitGroup
		for range callers {
			calls.Go(func() {
				if call() != wanted {
					t.Errorf("with %d processors, a result is another one", processors)
				}
			})
		}
		calls.Wait()
	}
}
