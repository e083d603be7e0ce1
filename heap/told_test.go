package heap_test

import (
	"fmt"
	"math"
	"reflect"
	"slices"
	"testing"

	"twinstep/api"
	"twinstep/heap"
)

// told_test.go: a heap, of which all is asked behind each call.

// asked is a heap, the list that tells what it is to answer, the values and texts that are asked for, and what was called last.
type asked struct {
	t      *testing.T
	heap   *heap.Heap
	plain  plain
	values []api.Value
	texts  []string
	last   string
}

func made(t *testing.T, max int) *heap.Heap {
	t.Helper()
	h, err := heap.New(max)
	if h == nil || err != api.OK {
		t.Fatalf("New(%d) = %v, %v", max, h, err)
	}
	return h
}

// begin answers a new heap that is asked.
func begin(t *testing.T, max int) *asked {
	t.Helper()
	a := &asked{t: t, heap: made(t, max), plain: plain{max: max}, last: "New"}
	a.values, a.texts = never(), []string{"", "never"}
	a.told()
	return a
}

// far answers numbers that are no object's, for there never are so many.
func far() []int64 {
	return []int64{0, -1, -2, math.MinInt32, math.MinInt64, math.MinInt64 + 1, mostObjects + 1, 1 << 32, 1<<32 + 1, math.MaxInt64 - 1, math.MaxInt64}
}

// kinds answers the kinds of objects.
func kinds() []api.Kind {
	return []api.Kind{api.KStr, api.KTable, api.KFunc, api.KThread, api.KCell}
}

// noKinds answers kinds that are none; the last ones are what a byte tells for those below 0.
func noKinds() []api.Kind { return []api.Kind{10, 11, 100, 127, 128, 254, 255} }

// never answers some of what never is the value of an object.
func never() []api.Value {
	list := []api.Value{none, {Kind: api.KFalse}, {Kind: api.KTrue}}
	for _, n := range []int64{0, -1, math.MinInt64, mostObjects + 1, math.MaxInt64} {
		for _, kind := range kinds() {
			list = append(list, api.Value{Kind: kind, N: n})
		}
	}
	for _, kind := range append(noKinds(), api.KNil, api.KFalse, api.KTrue, api.KInt, api.KLib) {
		list = append(list, api.Value{Kind: kind, N: 1}, api.Value{Kind: kind, N: -1})
	}
	return list
}

// knows has a value asked for from now on, and its number with each kind of objects.
func (a *asked) knows(v api.Value) {
	for _, kind := range kinds() {
		if w := (api.Value{Kind: kind, N: v.N}); !slices.Contains(a.values, w) {
			a.values = append(a.values, w)
		}
	}
}

// made holds what a call that makes something answered against what it should, and asks for all.
func (a *asked) made(last string, v api.Value, err api.Errno, want api.Value, wantErr api.Errno) (api.Value, api.Errno) {
	a.t.Helper()
	a.last = last
	if v != want || err != wantErr {
		a.t.Fatalf("%s = %v, %v, not %v, %v", last, v, err, want, wantErr)
	}
	if err == api.OK {
		a.knows(v)
	}
	a.told()
	return v, err
}

// did holds what a call answered against what it should, and asks for all.
func (a *asked) did(last string, err, want api.Errno) api.Errno {
	a.t.Helper()
	a.last = last
	if err != want {
		a.t.Fatalf("%s = %v, not %v", last, err, want)
	}
	a.told()
	return err
}

func (a *asked) str(s string) (api.Value, api.Errno) {
	a.t.Helper()
	if !slices.Contains(a.texts, s) {
		a.texts = append(a.texts, s)
	}
	v, err := a.heap.Str(s)
	want, wantErr := a.plain.str(s)
	return a.made(fmt.Sprintf("Str(%d bytes)", len(s)), v, err, want, wantErr)
}

func (a *asked) table() (api.Value, api.Errno) {
	a.t.Helper()
	v, err := a.heap.Table()
	want, wantErr := a.plain.add(&thing{kind: api.KTable})
	return a.made("Table()", v, err, want, wantErr)
}

func (a *asked) thread() (api.Value, api.Errno) {
	a.t.Helper()
	v, err := a.heap.Thread()
	want, wantErr := a.plain.add(&thing{kind: api.KThread})
	return a.made("Thread()", v, err, want, wantErr)
}

func (a *asked) cell(has api.Value) (api.Value, api.Errno) {
	a.t.Helper()
	v, err := a.heap.Cell(has)
	want, wantErr := a.plain.cell(has)
	return a.made(fmt.Sprintf("Cell(%v)", has), v, err, want, wantErr)
}

func (a *asked) fn(proto int, cells ...api.Value) (api.Value, api.Errno) {
	a.t.Helper()
	v, err := a.heap.Func(proto, cells)
	want, wantErr := a.plain.fn(proto, cells)
	return a.made(fmt.Sprintf("Func(%d, %v)", proto, cells), v, err, want, wantErr)
}

func (a *asked) set(t, k, v api.Value) api.Errno {
	a.t.Helper()
	return a.did(fmt.Sprintf("Set(%v, %v, %v)", t, k, v), a.heap.Set(t, k, v), a.plain.set(t, k, v))
}

func (a *asked) setMeta(t, m api.Value) api.Errno {
	a.t.Helper()
	return a.did(fmt.Sprintf("SetMeta(%v, %v)", t, m), a.heap.SetMeta(t, m), a.plain.setMeta(t, m))
}

func (a *asked) store(c, v api.Value) api.Errno {
	a.t.Helper()
	return a.did(fmt.Sprintf("Store(%v, %v)", c, v), a.heap.Store(c, v), a.plain.store(c, v))
}

func (a *asked) free(v api.Value) api.Errno {
	a.t.Helper()
	return a.did(fmt.Sprintf("Free(%v)", v), a.heap.Free(v), a.plain.free(v))
}

// state changes a thread's state, and asks for all; it tells whether there is that thread.
func (a *asked) state(v api.Value, change func(*api.Thread)) bool {
	a.t.Helper()
	s, x := a.heap.State(v), a.plain.findKind(api.KThread, v)
	a.last = fmt.Sprintf("State(%v)", v)
	if (s != nil) != (x != nil) {
		a.t.Fatalf("%s = %v", a.last, s)
	}
	if x != nil {
		a.plain.note(x)
		change(s)
		change(&x.state)
	}
	a.told()
	return x != nil
}

func (a *asked) watch(on bool) {
	a.t.Helper()
	a.heap.Watch(on)
	a.plain.watch(on)
	a.did(fmt.Sprintf("Watch(%v)", on), api.OK, api.OK)
}

func (a *asked) dirty() []api.Value {
	a.t.Helper()
	list, want := a.heap.Dirty(), a.plain.dirty()
	a.last = "Dirty()"
	if !slices.Equal(list, want) {
		a.t.Fatalf("%s = %v, not %v", a.last, list, want)
	}
	a.told()
	return list
}

// told asks for all that a heap tells, twice.
func (a *asked) told() {
	a.t.Helper()
	for range 2 {
		a.totals()
		for _, v := range a.values {
			a.each(v)
			a.each2(v)
		}
		for _, s := range a.texts {
			a.known(s)
		}
	}
}

// totals asks for Objects, Used and Max.
func (a *asked) totals() {
	a.t.Helper()
	list, used, max := a.heap.Objects(), a.heap.Used(), a.heap.Max()
	if !slices.Equal(list, a.plain.values()) || used != a.plain.used() || max != a.plain.max {
		a.t.Fatalf("behind %s: Objects %v, Used %d, Max %d; not %v, %d, %d", a.last, list, used, max, a.plain.values(), a.plain.used(), a.plain.max)
	}
	if used > max {
		a.t.Fatalf("behind %s: Used %d is above %d", a.last, used, max)
	}
}

// same holds one answer against what it should be.
func same[T comparable](a *asked, call string, v api.Value, got, want T) {
	a.t.Helper()
	if got != want {
		a.t.Fatalf("behind %s: %s(%v) = %v, not %v", a.last, call, v, got, want)
	}
}

func sameList(a *asked, call string, v api.Value, got, want []api.Value) {
	a.t.Helper()
	if !slices.Equal(got, want) {
		a.t.Fatalf("behind %s: %s(%v) = %v, not %v", a.last, call, v, got, want)
	}
}

// orNone answers x, if it is of that kind, else one that has nothing.
func orNone(x *thing, kind api.Kind) *thing {
	if x != nil && x.kind == kind {
		return x
	}
	return &thing{}
}

// each asks for all that is told of objects that are no tables.
func (a *asked) each(v api.Value) {
	a.t.Helper()
	x := a.plain.find(v)
	same(a, "Has", v, a.heap.Has(v), x != nil)
	text, ok := a.heap.Text(v)
	same(a, "Text", v, text, orNone(x, api.KStr).text)
	same(a, "Text's second", v, ok, x != nil && v.Kind == api.KStr)
	proto, ok := a.heap.Proto(v)
	same(a, "Proto", v, proto, orNone(x, api.KFunc).proto)
	same(a, "Proto's second", v, ok, x != nil && v.Kind == api.KFunc)
	sameList(a, "Cells", v, a.heap.Cells(v), orNone(x, api.KFunc).cells)
	same(a, "Load", v, a.heap.Load(v), orNone(x, api.KCell).has)
	if x == nil {
		x = &thing{}
	}
	same(a, "Serial", v, a.heap.Serial(v), x.serial)
	sameList(a, "Kids", v, a.heap.Kids(v), x.kids())
	if !a.plain.watched {
		a.ownState(v, x)
	}
}

// ownState asks for State, which would be noted while somebody watches.
func (a *asked) ownState(v api.Value, x *thing) {
	a.t.Helper()
	s := a.heap.State(v)
	same(a, "State is there", v, s != nil, x.kind == api.KThread)
	same(a, "State again", v, a.heap.State(v), s)
	if s != nil && !reflect.DeepEqual(*s, x.state) {
		a.t.Fatalf("behind %s: State(%v) = %v, not %v", a.last, v, *s, x.state)
	}
}

// each2 asks for all that is told of tables: Get and Next of each key, and of some that are none.
func (a *asked) each2(v api.Value) {
	a.t.Helper()
	x, there := a.plain.find(v), true
	if there = x != nil && x.kind == api.KTable; !there {
		x = &thing{}
	}
	same(a, "Meta", v, a.heap.Meta(v), x.meta)
	same(a, "Len", v, a.heap.Len(v), x.length())
	keys := []api.Value{none, num(1), num(-1), {Kind: api.KNil, N: 5}, {Kind: api.KCell, N: 1}, {Kind: 200, N: 1}}
	for _, p := range x.places {
		keys = append(keys, p.key)
	}
	for _, k := range keys {
		same(a, fmt.Sprint("Get of ", k, " of "), v, a.heap.Get(v, k), x.get(k))
		nk, nv, err := a.heap.Next(v, k)
		wk, wv, want := none, none, api.ErrObject
		if there {
			wk, wv, want = x.next(k)
		}
		if nk != wk || nv != wv || err != want {
			a.t.Fatalf("behind %s: Next(%v, %v) = %v, %v, %v, not %v, %v, %v", a.last, v, k, nk, nv, err, wk, wv, want)
		}
	}
}

// known asks for Known.
func (a *asked) known(s string) {
	a.t.Helper()
	v, ok := a.heap.Known(s)
	want := none
	x := a.plain.known(s)
	if x != nil {
		want = x.value()
	}
	if v != want || ok != (x != nil) {
		a.t.Fatalf("behind %s: Known of %d bytes = %v, %v, not %v", a.last, len(s), v, ok, want)
	}
}

// The hand's calls: what must be there is made, and answered alone.

func (a *asked) aStr(s string) api.Value { return a.must(a.str(s)) }

func (a *asked) aTable() api.Value { return a.must(a.table()) }

func (a *asked) aThread() api.Value { return a.must(a.thread()) }

func (a *asked) aCell(v api.Value) api.Value { return a.must(a.cell(v)) }

func (a *asked) aFunc(proto int, cells ...api.Value) api.Value { return a.must(a.fn(proto, cells...)) }

func (a *asked) must(v api.Value, err api.Errno) api.Value {
	a.t.Helper()
	if err != api.OK {
		a.t.Fatalf("%s: %v", a.last, err)
	}
	return v
}

// is holds an error against what it should be.
func is(t *testing.T, what string, err, want api.Errno) {
	t.Helper()
	if err != want {
		t.Errorf("%s: %v, not %v", what, err, want)
	}
}

// uses holds Used against a number.
func (a *asked) uses(want int) {
	a.t.Helper()
	if got := a.heap.Used(); got != want {
		a.t.Errorf("behind %s: Used = %d, not %d", a.last, got, want)
	}
}

// leads holds Kids against a list.
func (a *asked) leads(v api.Value, want ...api.Value) {
	a.t.Helper()
	sameList(a, "Kids", v, a.heap.Kids(v), want)
}
