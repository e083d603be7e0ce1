package collect_test

import (
	"fmt"
	"math"
	"reflect"
	"slices"
	"testing"

	"twinstep/api"
	"twinstep/collect"
	"twinstep/heap"
)

// told_test.go: a collector, of which all is asked behind each call, beside a plain one on a heap that gets the same calls.

const (
	mostObjects = 65536
	greatest    = 1 << 24
)

var none api.Value

func num(n int64) api.Value { return api.Value{Kind: api.KInt, N: n} }

func obj(kind api.Kind, n int64) api.Value { return api.Value{Kind: kind, N: n} }

// kinds answers all kinds of values, and some that are none.
func kinds() []api.Kind {
	return []api.Kind{api.KNil, api.KFalse, api.KTrue, api.KInt, api.KStr, api.KTable, api.KFunc, api.KLib, api.KThread, api.KCell, 10, 128, 255}
}

// far answers numbers that are no object's.
func far() []int64 {
	return []int64{0, -1, -2, math.MinInt32, math.MinInt64, math.MinInt64 + 1, mostObjects + 1, 1 << 32, 1<<32 + 1, math.MaxInt64 - 1, math.MaxInt64}
}

// never answers values that never are an object's.
func never() []api.Value {
	var list []api.Value
	for _, kind := range kinds() {
		for _, n := range far() {
			list = append(list, obj(kind, n))
		}
		if kind < api.KStr || kind == api.KLib || kind > api.KCell {
			list = append(list, obj(kind, 1), obj(kind, 2), obj(kind, 3))
		}
	}
	return list
}

type asked struct {
	t     *testing.T
	heap  *heap.Heap
	c     *collect.Collector
	plain *plain
	never []api.Value
	last  string
}

func newHeap(t *testing.T, max int) *heap.Heap {
	t.Helper()
	h, err := heap.New(max)
	if h == nil || err != api.OK {
		t.Fatal(max, h, err)
	}
	return h
}

func newCollector(t *testing.T, h *heap.Heap) *collect.Collector {
	t.Helper()
	c, err := collect.New(h)
	if c == nil || err != api.OK {
		t.Fatal(c, err)
	}
	return c
}

// begin answers a new collector of a new heap.
func begin(t *testing.T, max int) *asked {
	t.Helper()
	h := newHeap(t, max)
	a := &asked{t: t, heap: h, c: newCollector(t, h), plain: &plain{heap: newHeap(t, max)}, never: never(), last: "New"}
	a.told()
	return a
}

// told asks for all, twice.
func (a *asked) told() {
	a.t.Helper()
	for range 2 {
		if a.c.Phase() != a.plain.phase || a.c.Cycles() != a.plain.cycles {
			a.t.Fatalf("behind %s: Phase %d, Cycles %d, not %d, %d", a.last, a.c.Phase(), a.c.Cycles(), a.plain.phase, a.plain.cycles)
		}
		objects, want := a.heap.Objects(), a.plain.heap.Objects()
		if !slices.Equal(objects, want) || a.heap.Used() != a.plain.heap.Used() {
			a.t.Fatalf("behind %s: objects %v, not %v", a.last, objects, want)
		}
		for n := range int64(len(want) + 9) {
			for _, kind := range kinds() {
				a.toldMarked(obj(kind, n))
			}
		}
		for _, v := range want {
			a.toldMarked(v)
			if kids, want := a.heap.Kids(v), a.plain.heap.Kids(v); !slices.Equal(kids, want) {
				a.t.Fatalf("behind %s: Kids(%v) = %v, not %v", a.last, v, kids, want)
			}
		}
		for _, v := range a.never {
			if a.c.Marked(v) {
				a.t.Fatalf("behind %s: Marked(%v)", a.last, v)
			}
		}
	}
}

func (a *asked) toldMarked(v api.Value) {
	a.t.Helper()
	if got, want := a.c.Marked(v), a.plain.isMarked(v); got != want {
		a.t.Fatalf("behind %s: Marked(%v) = %v, not %v", a.last, v, got, want)
	}
}

func (a *asked) start(roots ...api.Value) api.Errno {
	a.t.Helper()
	a.last = fmt.Sprintf("Start(%v)", roots)
	if err, want := a.c.Start(roots), a.plain.start(roots); err != want {
		a.t.Fatalf("%s = %v, not %v", a.last, err, want)
	} else {
		a.told()
		return err
	}
	return api.OK
}

func (a *asked) step(n int, roots ...api.Value) int {
	a.t.Helper()
	a.last = fmt.Sprintf("Step(%d, %v)", n, roots)
	freed, err := a.c.Step(n, roots)
	if want := a.plain.step(n, roots); freed != want || err != api.OK {
		a.t.Fatalf("%s = %d, %v, not %d", a.last, freed, err, want)
	}
	a.told()
	return freed
}

func (a *asked) full(roots ...api.Value) int {
	a.t.Helper()
	a.last = fmt.Sprintf("Full(%v)", roots)
	freed, err := a.c.Full(roots)
	if want := a.plain.full(roots); freed != want || err != api.OK {
		a.t.Fatalf("%s = %d, %v, not %d", a.last, freed, err, want)
	}
	a.told()
	return freed
}

// both calls something of both heaps, which must answer the same, and asks for all.
func (a *asked) both(last string, call func(*heap.Heap) (api.Value, api.Errno)) (api.Value, api.Errno) {
	a.t.Helper()
	a.last = last
	v, err := call(a.heap)
	if w, want := call(a.plain.heap); v != w || err != want {
		a.t.Fatalf("%s = %v, %v, not %v, %v", a.last, v, err, w, want)
	}
	a.told()
	return v, err
}

// must is both of what may not fail.
func (a *asked) must(last string, call func(*heap.Heap) (api.Value, api.Errno)) api.Value {
	a.t.Helper()
	v, err := a.both(last, call)
	if err != api.OK {
		a.t.Fatal(last, err)
	}
	return v
}

func (a *asked) str(s string) api.Value {
	a.t.Helper()
	return a.must("Str", func(h *heap.Heap) (api.Value, api.Errno) { return h.Str(s) })
}

func (a *asked) cell(v api.Value) api.Value {
	a.t.Helper()
	return a.must("Cell", func(h *heap.Heap) (api.Value, api.Errno) { return h.Cell(v) })
}

func (a *asked) fn(cells ...api.Value) api.Value {
	a.t.Helper()
	return a.must("Func", func(h *heap.Heap) (api.Value, api.Errno) { return h.Func(0, cells) })
}

func (a *asked) thread() api.Value {
	a.t.Helper()
	return a.must("Thread", (*heap.Heap).Thread)
}

// table answers a new table with these values, from 1 on.
func (a *asked) table(vals ...api.Value) api.Value {
	a.t.Helper()
	t := a.must("Table", (*heap.Heap).Table)
	for at, v := range vals {
		a.set(t, num(int64(at+1)), v)
	}
	return t
}

func (a *asked) set(t, k, v api.Value) {
	a.t.Helper()
	a.must("Set", func(h *heap.Heap) (api.Value, api.Errno) { return none, h.Set(t, k, v) })
}

func (a *asked) setMeta(t, m api.Value) {
	a.t.Helper()
	a.must("SetMeta", func(h *heap.Heap) (api.Value, api.Errno) { return none, h.SetMeta(t, m) })
}

func (a *asked) store(c, v api.Value) {
	a.t.Helper()
	a.must("Store", func(h *heap.Heap) (api.Value, api.Errno) { return none, h.Store(c, v) })
}

// state makes a thread's state be that.
func (a *asked) state(t api.Value, s api.Thread) {
	a.t.Helper()
	a.must("State", func(h *heap.Heap) (api.Value, api.Errno) {
		if own := h.State(t); own != nil {
			*own = s
			return none, api.OK
		}
		return none, api.ErrObject
	})
}

// marks asks that of all objects just these are marked.
func (a *asked) marks(want ...api.Value) {
	a.t.Helper()
	var got []api.Value
	for _, v := range a.heap.Objects() {
		if a.c.Marked(v) {
			got = append(got, v)
		}
	}
	want = slices.Clone(want)
	slices.SortFunc(want, func(v, w api.Value) int { return int(v.N - w.N) })
	if !slices.Equal(got, want) {
		a.t.Fatalf("behind %s: %v are marked, not %v", a.last, got, want)
	}
}

// there asks that just these objects are there.
func (a *asked) there(want ...api.Value) {
	a.t.Helper()
	want = slices.Clone(want)
	slices.SortFunc(want, func(v, w api.Value) int { return int(v.N - w.N) })
	if got := a.heap.Objects(); !slices.Equal(got, want) {
		a.t.Fatalf("behind %s: %v are there, not %v", a.last, got, want)
	}
}

// at asks for the phase, and how many cycles have come to their end.
func (a *asked) at(phase, cycles int) {
	a.t.Helper()
	if a.c.Phase() != phase || a.c.Cycles() != cycles {
		a.t.Fatalf("behind %s: Phase %d, Cycles %d, not %d, %d", a.last, a.c.Phase(), a.c.Cycles(), phase, cycles)
	}
}

// is holds an answer against what it should be.
func is[T any](t *testing.T, what string, got, want T) {
	t.Helper()
	if !reflect.DeepEqual(got, want) {
		t.Fatalf("%s: %v, not %v", what, got, want)
	}
}

// inPhase answers one that has the objects a table, a text in it, and a table that is not reached; and the first of these; it is in that phase of its first cycle.
func inPhase(t *testing.T, phase int) (*asked, api.Value) {
	t.Helper()
	a := begin(t, 100)
	root := a.table(a.str("text"))
	a.table()
	if phase > 0 {
		a.start(root)
	}
	if phase > 1 {
		a.step(3, root)
	}
	a.at(phase, 0)
	return a, root
}
