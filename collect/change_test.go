package collect_test

import (
	"testing"

	"twinstep/api"
)

// change_test.go: P15.3 by hand: objects are made, changed and taken out while marks are set.

// holder is an object into which something is put, and out of which it is taken.
type holder struct {
	name string
	make func(a *asked) api.Value
	put  func(a *asked, x, v api.Value)
}

// holders answers each way in which an object may come to lead to another one.
func holders() []holder {
	table := func(a *asked) api.Value { return a.table() }
	thread := func(a *asked) api.Value { return a.thread() }
	frame := func(f api.Frame) api.Thread {
		return api.Thread{Levels: []api.Level{{Kind: api.LFrame, Frame: f}}}
	}
	return []holder{
		{"value", table, func(a *asked, x, v api.Value) { a.set(x, num(1), v) }},
		{"metatable", table, func(a *asked, x, v api.Value) { a.setMeta(x, v) }},
		{"cell", func(a *asked) api.Value { return a.cell(none) }, func(a *asked, x, v api.Value) { a.store(x, v) }},
		{"thread's values", thread, func(a *asked, x, v api.Value) { a.state(x, api.Thread{Vals: []api.Value{v}}) }},
		{"slots", thread, func(a *asked, x, v api.Value) { a.state(x, frame(api.Frame{Slots: []api.Value{none, v}})) }},
		{"dots", thread, func(a *asked, x, v api.Value) { a.state(x, frame(api.Frame{Dots: []api.Value{v}})) }},
		{"frame's values", thread, func(a *asked, x, v api.Value) { a.state(x, frame(api.Frame{Vals: []api.Value{v}})) }},
		{"registers", thread, func(a *asked, x, v api.Value) { a.state(x, frame(api.Frame{Regs: []api.Value{v}})) }},
	}
}

// P15.3: what is put from one that is still to be gone through into one that was gone through stays, with all that it leads to.
func TestMoved(t *testing.T) {
	for _, from := range holders() {
		for _, into := range holders() {
			a := begin(t, 100)
			kid := a.str("kid")
			v := a.table(kid)
			x, y := into.make(a), from.make(a)
			from.put(a, y, v)
			a.start(x, y)
			a.step(1, x, y)
			a.marks(x, y)
			into.put(a, x, v)
			from.put(a, y, none)
			a.marks(x, y)
			a.step(1, x, y)
			a.marks(x, y)
			a.at(1, 0)
			a.step(1, x, y)
			a.marks(x, y, v, kid)
			if n := a.step(99, x, y); n != 0 || !a.heap.Has(v) || !a.heap.Has(kid) {
				t.Fatalf("%s into %s: %d freed", from.name, into.name, n)
			}
			is(t, "Full", a.full(y), 3)
		}
	}
}

// P15.3: what is taken out of one that was gone through stays till the next cycle; out of one that is still to be gone through, it is freed.
func TestTakenOut(t *testing.T) {
	for _, from := range holders() {
		for _, through := range []bool{true, false} {
			a := begin(t, 100)
			v := a.table()
			x, y := from.make(a), from.make(a)
			if through {
				x, y = y, x
			}
			from.put(a, y, v)
			a.start(y, x)
			if through {
				a.step(1, x, y)
			}
			from.put(a, y, none)
			freed := a.step(99, x, y)
			is(t, from.name+": "+a.last, freed == 0, through)
			is(t, from.name+": "+a.last, a.heap.Has(v), through)
			a.full(x, y)
			a.there(x, y)
		}
	}
}

// P15.3: what is made while marks are set is not marked till their end, then it is, with all that it leads to, reached or not.
func TestMade(t *testing.T) {
	a := begin(t, 100)
	old := a.table(a.str("kid"))
	x := a.table()
	a.start(x)
	c := a.cell(old)
	f, b := a.fn(c), a.thread()
	s, y := a.str("s"), a.table()
	a.marks(x)
	a.step(1, x)
	a.at(1, 0)
	a.marks(x)
	a.step(1, x)
	a.at(2, 0)
	a.marks(a.heap.Objects()...)
	is(t, "Step", a.step(99, x), 0)
	a.start(x)
	is(t, "Step", a.step(99, x), 7)
	if a.heap.Has(f) || a.heap.Has(b) || a.heap.Has(s) || a.heap.Has(y) {
		t.Error("not freed")
	}
}

// P15.3: a text that is there is not marked when Str tells it, but at the end of marking; one that is known alone is not.
func TestTextMarking(t *testing.T) {
	a := begin(t, 100)
	s, u, x := a.str("s"), a.str("u"), a.table()
	a.start(x)
	is(t, "Str", a.str("s"), s)
	a.heap.Known("u")
	a.plain.heap.Known("u")
	a.marks(x)
	a.step(2, x)
	a.marks(x, s)
	is(t, "Step", a.step(99, x), 1)
	a.there(s, x)
	if a.heap.Has(u) {
		t.Error(u)
	}
}

// P15.3: what was noted is marked though nothing leads to it: tables and cells that were changed, threads whose state was told.
func TestNoted(t *testing.T) {
	a := begin(t, 100)
	kid, lost := a.str("kid"), a.str("lost")
	x, y, c, b, f := a.table(lost), a.table(), a.cell(none), a.thread(), a.fn()
	m := a.table(kid)
	a.start()
	a.set(x, num(1), num(1))
	a.setMeta(y, m)
	a.store(c, num(1))
	a.state(b, api.Thread{Vals: []api.Value{y}})
	a.step(1)
	a.marks(kid, x, y, c, b, m)
	is(t, "Step", a.step(99), 2)
	if a.heap.Has(f) || a.heap.Has(lost) {
		t.Error("not freed")
	}
	is(t, "Full", a.full(), 6)
}

// P15.3: one that is marked, and was changed since it was gone through, is gone through again; what it led to ahead stays marked.
func TestChangedBehind(t *testing.T) {
	a := begin(t, 100)
	u, v, w := a.str("u"), a.str("v"), a.str("w")
	x := a.table(u)
	a.start(x)
	a.step(1, x)
	a.marks(x, u)
	a.set(x, num(1), v)
	a.set(x, num(1), w)
	a.step(1, x)
	a.at(1, 0)
	a.marks(x, u)
	a.step(1, x)
	a.marks(x, u, w)
	is(t, "Step", a.step(99, x), 1)
	a.there(u, w, x)
}

// P15.3: what heap refuses is not noted, and marks nothing.
func TestRefusedChange(t *testing.T) {
	a := begin(t, 100)
	x, y := a.table(), a.table()
	a.start(x)
	is(t, "Set", a.heap.Set(y, none, x), api.ErrValue)
	is(t, "SetMeta", a.heap.SetMeta(y, num(1)), api.ErrValue)
	a.step(2, x)
	a.marks(x)
	is(t, "Step", a.step(99, x), 1)
}
