package heap_test

import (
	"slices"
	"strings"
	"testing"

	"twinstep/api"
	"twinstep/heap"
)

// wrong_test.go: heaps that New did not make, and lists that are changed.

// noHeap asks a heap that is none for everything.
func noHeap(t *testing.T, h *heap.Heap) {
	t.Helper()
	for range 2 {
		h.Watch(true)
		noMaking(t, h)
		for _, v := range append(never(), num(1), obj(api.KStr, 1), obj(api.KTable, 2), obj(api.KFunc, 3), obj(api.KThread, 4), obj(api.KCell, 5)) {
			noChange(t, h, v)
			noTelling(t, h, v)
		}
		if len(h.Objects()) != 0 || h.Used() != 0 || h.Max() != 0 || len(h.Dirty()) != 0 {
			t.Error(h.Objects(), h.Used(), h.Max())
		}
		h.Watch(false)
	}
}

func noMaking(t *testing.T, h *heap.Heap) {
	t.Helper()
	no := func(v api.Value, err api.Errno) {
		t.Helper()
		if v != none || err != api.ErrNil {
			t.Error(v, err)
		}
	}
	no(h.Str(""))
	no(h.Str("text"))
	no(h.Str(strings.Repeat("x", 65536)))
	no(h.Table())
	no(h.Thread())
	no(h.Cell(none))
	no(h.Cell(obj(api.KCell, 1)))
	no(h.Func(0, nil))
	no(h.Func(-1, make([]api.Value, 61)))
	if v, ok := h.Known("text"); ok || v != none {
		t.Error(v, ok)
	}
}

func noChange(t *testing.T, h *heap.Heap, v api.Value) {
	t.Helper()
	is(t, "Set", h.Set(v, num(1), num(1)), api.ErrNil)
	is(t, "Set", h.Set(v, none, v), api.ErrNil)
	is(t, "SetMeta", h.SetMeta(v, none), api.ErrNil)
	is(t, "SetMeta", h.SetMeta(v, num(1)), api.ErrNil)
	is(t, "Store", h.Store(v, none), api.ErrNil)
	is(t, "Store", h.Store(v, obj(api.KCell, 1)), api.ErrNil)
	is(t, "Free", h.Free(v), api.ErrNil)
	k, w, err := h.Next(v, none)
	if is(t, "Next", err, api.ErrNil); k != none || w != none {
		t.Error(k, w)
	}
}

func noTelling(t *testing.T, h *heap.Heap, v api.Value) {
	t.Helper()
	if s, ok := h.Text(v); ok || s != "" {
		t.Error(v, s)
	}
	if n, ok := h.Proto(v); ok || n != 0 {
		t.Error(v, n)
	}
	if h.Get(v, num(1)) != none || h.Meta(v) != none || h.Load(v) != none || h.Len(v) != 0 || h.Serial(v) != 0 {
		t.Error(v)
	}
	if len(h.Cells(v)) != 0 || len(h.Kids(v)) != 0 || h.Has(v) || h.State(v) != nil {
		t.Error(v)
	}
}

// R5: a nil heap, and heaps that New did not make.
func TestNoHeap(t *testing.T) {
	noHeap(t, nil)
	noHeap(t, new(heap.Heap))
	noHeap(t, &heap.Heap{})
	a := begin(t, 100)
	oneOfEach(a)
	byHand := *a.heap
	noHeap(t, &byHand)
	a.told()
	a.aStr("later")
	a.watch(true)
	x := a.aTable()
	noHeap(t, &byHand)
	a.dirtyIs(x)
}

// R3: cells that were handed in are not kept, nor changed, spare room too.
func TestHandedIn(t *testing.T) {
	a := begin(t, 100)
	c, d := a.aCell(num(1)), a.aCell(num(2))
	list := []api.Value{c, d, num(7), num(8)}
	f := a.aFunc(0, list[:2]...)
	g := a.aFunc(1, list[:0]...)
	if !slices.Equal(list, []api.Value{c, d, num(7), num(8)}) {
		t.Error(list)
	}
	for i := range list {
		list[i] = obj(api.KTable, 1)
	}
	a.leads(f, c, d)
	a.leads(g)
	a.told()
}

// spoil changes a list, with its spare room.
func spoil(list []api.Value) {
	list = list[:cap(list)]
	for i := range list {
		list[i] = obj(api.KTable, 55)
	}
}

// R3: lists that are answered are the asker's, with their spare room.
func TestAnswered(t *testing.T) {
	a := begin(t, 100)
	list := oneOfEach(a)
	a.set(list[1], list[0], list[2])
	a.state(list[3], func(s *api.Thread) { s.Vals = []api.Value{list[0], list[1]} })
	for _, v := range list {
		one, two := a.heap.Kids(v), a.heap.Kids(v)
		want := slices.Clone(two)
		spoil(one)
		sameList(a, "Kids of another asker", v, two, want)
		spoil(two)
	}
	for _, ask := range []func() []api.Value{a.heap.Objects, func() []api.Value { return a.heap.Cells(list[2]) }} {
		one, two := ask(), ask()
		want := slices.Clone(two)
		spoil(one)
		sameList(a, "another asker's", none, two, want)
		spoil(two)
	}
	a.told()
	a.watch(true)
	x := a.aTable()
	first := a.dirty()
	spoil(first)
	a.setMeta(x, x)
	second := a.dirty()
	a.setMeta(list[1], x)
	third := a.dirty()
	spoil(third)
	sameList(a, "Dirty", none, second, []api.Value{x})
	a.told()
}

// R3: what a thread has is read by Kids, and not changed.
func TestKidsKeep(t *testing.T) {
	a := begin(t, 100)
	b := a.aThread()
	vals := []api.Value{obj(api.KStr, 1), num(2), obj(api.KStr, 3), obj(api.KStr, 4)}
	a.state(b, func(s *api.Thread) { s.Vals = vals[:1] })
	for range 2 {
		kids := a.heap.Kids(b)
		_ = append(kids, num(9))
		spoil(kids)
	}
	a.leads(b, obj(api.KStr, 1))
	if !slices.Equal(vals, []api.Value{obj(api.KStr, 1), num(2), obj(api.KStr, 3), obj(api.KStr, 4)}) {
		t.Error(vals)
	}
}
