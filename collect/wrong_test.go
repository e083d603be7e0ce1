package collect_test

import (
	"math"
	"slices"
	"testing"

	"twinstep/api"
	"twinstep/collect"
	"twinstep/heap"
)

// wrong_test.go: heaps and collectors that no call made, and lists of roots that are changed.

// P15.1, R5: a nil heap, and heaps that New of heap did not make.
func TestNoHeap(t *testing.T) {
	h := newHeap(t, 100)
	h.Table()
	byHand := *h
	for _, h := range []*heap.Heap{nil, new(heap.Heap), {}, &byHand} {
		c, err := collect.New(h)
		if c != nil || err != api.ErrNil {
			t.Errorf("New = %v, %v", c, err)
		}
		noCollector(t, c)
	}
	newCollector(t, h)
}

// noCollector asks a collector that is none for everything.
func noCollector(t *testing.T, c *collect.Collector) {
	t.Helper()
	for range 2 {
		for _, roots := range [][]api.Value{nil, {obj(api.KTable, 1)}, never()} {
			is(t, "Start", c.Start(roots), api.ErrNil)
			for _, n := range []int{math.MinInt, -1, 0, 1, 99, math.MaxInt} {
				freed, err := c.Step(n, roots)
				is(t, "Step", err, api.ErrNil)
				is(t, "Step", freed, 0)
			}
			freed, err := c.Full(roots)
			is(t, "Full", err, api.ErrNil)
			is(t, "Full", freed, 0)
		}
		is(t, "Phase", c.Phase(), 0)
		is(t, "Cycles", c.Cycles(), 0)
		for _, v := range append(never(), obj(api.KStr, 1), obj(api.KTable, 2), obj(api.KCell, 3)) {
			is(t, "Marked", c.Marked(v), false)
		}
	}
}

// R5: a nil collector, and collectors that New did not make: an empty one, and what somebody has copied by an assignment, in each phase.
func TestNoCollector(t *testing.T) {
	noCollector(t, nil)
	noCollector(t, new(collect.Collector))
	for phase := range 3 {
		a, root := inPhase(t, phase)
		byHand := *a.c
		noCollector(t, &byHand)
		a.told()
		a.step(1, root)
		noCollector(t, &byHand)
		a.told()
		is(t, "Full", a.full(), 3)
		noCollector(t, &byHand)
		a.at(0, 1)
	}
}

// R1: values of kinds that are none, and any numbers, as roots and asked for, in each phase.
func TestAnyRoots(t *testing.T) {
	wrong := never()
	for n := range int64(6) {
		for kind := range 256 {
			wrong = append(wrong, obj(api.Kind(kind), n))
		}
	}
	for phase := range 3 {
		a, root := inPhase(t, phase)
		right := []api.Value{root, obj(api.KStr, 1), obj(api.KTable, 3)}
		wrong := slices.DeleteFunc(slices.Clone(wrong), func(v api.Value) bool { return slices.Contains(right, v) })
		for _, v := range wrong {
			is(t, "Marked", a.c.Marked(v), false)
		}
		a.step(1, append(wrong, root)...)
		a.full(append(wrong, root)...)
		a.there(root, obj(api.KStr, 1))
		a.start(wrong...)
		a.marks()
		is(t, "Step", a.step(99, wrong...), 2)
	}
}

// R1: a thread whose state has numbers that are no object's.
func TestWrongState(t *testing.T) {
	a := begin(t, 100)
	b := a.thread()
	a.state(b, api.Thread{By: math.MinInt64, Vals: never(), Levels: []api.Level{
		{Kind: 99, Frame: api.Frame{Closure: math.MaxInt64, Slots: never(), Dots: never(), Vals: never(), Regs: never()}},
	}})
	a.cell(none)
	is(t, "Full", a.full(b), 1)
	a.start(b)
	a.step(1, b)
	a.state(b, api.Thread{By: -1, Vals: []api.Value{obj(api.KCell, 2), obj(api.KCell, 1), obj(api.KTable, 3)}})
	c := a.cell(none)
	is(t, "number", c.N, 2)
	is(t, "Step", a.step(99, b), 0)
	is(t, "Full", a.full(b), 0)
	a.there(b, c)
}

// R1: somebody else frees what is marked, or stands in the line or the list: nothing panics, and it counts for nobody.
func TestFreedBySomebody(t *testing.T) {
	for steps := range 9 {
		h := newHeap(t, 100)
		c := newCollector(t, h)
		s, _ := h.Str("s")
		x, _ := h.Table()
		h.Set(x, s, s)
		lost, _ := h.Table()
		c.Start([]api.Value{x})
		c.Step(steps, []api.Value{x})
		gone := 3 - len(h.Objects())
		for _, v := range []api.Value{x, s, lost} {
			h.Free(v)
		}
		freed, err := c.Step(99, []api.Value{x})
		is(t, "Step", []any{freed, err, c.Phase(), c.Cycles()}, []any{0, api.OK, 0, 1})
		want := 0
		// The third object is looked at by the sixth step.
		if steps >= 6 {
			want = 1
		}
		is(t, "gone", gone, want)
	}
}

// R3: roots are not kept: whoever has the list may change it when the call has answered.
func TestRootsApart(t *testing.T) {
	a := begin(t, 100)
	s, u := a.str("s"), a.str("u")
	x, y := a.table(s), a.table(u)
	roots := []api.Value{x, y}
	spoil := func() {
		for at := range roots {
			roots[at] = obj(api.KTable, 99)
		}
	}
	a.start(roots...)
	is(t, "Start", a.c.Start(roots), api.ErrState)
	spoil()
	a.marks(x, y)
	a.step(1)
	a.marks(x, y, s)
	a.step(1)
	a.marks(x, y, s, u)
	a.full(x, y)

	roots = []api.Value{x, y}
	c, plain := a.c, a.plain
	c.Start(roots)
	plain.start([]api.Value{x, y})
	spoil()
	a.told()
	roots = []api.Value{y, x}
	c.Step(4, roots)
	plain.step(4, []api.Value{y, x})
	spoil()
	a.told()
	c.Step(1, roots)
	plain.step(1, []api.Value{y, x})
	a.told()
	a.at(2, 1)
	spoil()
	is(t, "Step", a.step(99), 0)
	a.there(s, u, x, y)
}

// R3: roots are not changed, nor their spare room.
func TestRootsKeep(t *testing.T) {
	a := begin(t, 100)
	var all []api.Value
	for range 5 {
		all = append(all, a.table(a.str("s")))
	}
	want := slices.Clone(all)
	roots := all[:2]
	keep := func() {
		t.Helper()
		is(t, "the list", all, want)
	}
	for range 3 {
		a.c.Start(roots)
		keep()
		for range 20 {
			a.c.Step(1, roots)
			keep()
			a.heap.Cell(none)
		}
		a.c.Full(roots)
		keep()
	}
	is(t, "Objects", len(a.heap.Objects()), 3)
	is(t, "Full", func() int { n, _ := a.c.Full(roots[:0]); return n }(), 3)
	keep()
}
