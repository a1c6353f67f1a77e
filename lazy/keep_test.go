package lazy

import (
	"runtime"
	"testing"

	"spinney/api"
	"spinney/cell"
	"spinney/sample"
)

// Where the fuel ends among items that are not kept, the next call goes on from there: those that were passed are not held.
func TestKeepMovesOn(t *testing.T) {
	c, _ := cell.Iter(api.FnInc, sample.Num(0))
	from := &chosen{api.IsNone, c}
	for i := 1; i < 5; i++ {
		if tale := kept(from, 10); tale.ok || tale.e != api.ErrFuel || cell.Forced(from.c) || cell.Known(c) != 10*i {
			t.Fatalf("%d: %v, %d known", i, tale, cell.Known(c))
		}
	}
	// One that is kept is not passed.
	from = &chosen{api.IsEven, c}
	for range 3 {
		if tale := kept(from, 0); !tale.ok || tale.first.Num != 0 || from.c != c {
			t.Fatalf("%v", tale)
		}
	}
}

// scale is a step of a seq without end that weighs what lies in memory when it has come far.
type scale struct {
	far    int
	weighs *uint64
}

func (s scale) Next(fuel int) (api.Value, *cell.Cell, bool, int, api.Errno) {
	if s.far == 0 {
		*s.weighs = heap()
	}
	return sample.Num(1), cell.Later(scale{s.far - 1, s.weighs}), true, fuel, api.OK
}

// heap is how much lies in memory.
func heap() uint64 {
	var m runtime.MemStats
	runtime.GC()
	runtime.ReadMemStats(&m)
	return m.HeapAlloc
}

// P1: however much fuel there is, a question that is never true does not fill the memory with what was passed.
func TestKeepHoldsNothing(t *testing.T) {
	const far = 200000
	var weighs uint64
	c, _ := Keep(api.IsNone, cell.Later(scale{far, &weighs}))
	before := heap()
	if _, _, _, _, e := cell.Force(c, far+100); e != api.ErrFuel || weighs > before+1<<21 {
		t.Errorf("%v; %d bytes more behind %d items", e, weighs-before, far)
	}
	runtime.KeepAlive(c)
}

// turn is a step whose rest a test lays into it.
type turn struct{ rest *cell.Cell }

func (s *turn) Next(fuel int) (api.Value, *cell.Cell, bool, int, api.Errno) {
	return sample.Num(1), s.rest, true, fuel, api.OK
}

// ring are cells one behind the other, from the last of which one comes to that in place to.
func ring(n, to int) []*cell.Cell {
	var cells []*cell.Cell
	var steps []*turn
	for i := range n {
		steps = append(steps, &turn{})
		cells = append(cells, cell.Later(steps[i]))
	}
	for i := range n {
		steps[i].rest = cells[(i+1)%n]
	}
	steps[n-1].rest = cells[to]
	return cells
}

// A ring of any length, behind any number of cells, is noticed, before it was gone round many times; cells that are new each time are not.
func TestTrail(t *testing.T) {
	for n := 1; n < 40; n++ {
		for to := range n {
			cells := ring(n, to)
			var known trail
			passed, at := 0, cells[0]
			for {
				_, rest, _, _, _ := cell.Force(at, 9)
				passed++
				if known.returns(rest) {
					break
				}
				at = rest
			}
			if passed < n || passed > 4*n {
				t.Fatalf("of %d cells, back to %d: noticed behind %d", n, to, passed)
			}
		}
	}
	var known trail
	for i := range 1000 {
		if known.returns(cell.Empty()) {
			t.Fatalf("noticed behind %d, but they are all new", i)
		}
	}
}
