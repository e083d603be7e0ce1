package collect_test

import (
	"testing"

	"twinstep/api"
)

// full_test.go: P15.4 by hand.

// P15.4: a whole cycle: just the objects that are reached are there then.
func TestFull(t *testing.T) {
	a := begin(t, 100)
	s, lost := a.str("s"), a.str("lost")
	c := a.cell(s)
	f := a.fn(c)
	x := a.table(f)
	is(t, "Full", a.full(x, x, none, obj(api.KTable, s.N)), 1)
	a.at(0, 1)
	a.marks()
	a.there(s, c, f, x)
	if a.heap.Has(lost) {
		t.Error(lost)
	}
	is(t, "Full", a.full(f), 1)
	is(t, "Full", a.full(c), 1)
	is(t, "Full", a.full(s), 1)
	is(t, "Full", a.full(s), 0)
	is(t, "Full", a.full(never()...), 1)
	is(t, "Full", a.full(), 0)
	a.at(0, 7)
	a.there()
}

// P15.4: a cycle that goes on is forgotten, and does not count, in each phase.
func TestFullAmid(t *testing.T) {
	for phase := range 3 {
		for _, more := range []int{0, 1} {
			a, root := inPhase(t, phase)
			a.step(more, root)
			is(t, "Full", a.full(root), 1)
			a.at(0, 1)
			a.marks()
			a.there(root, obj(api.KStr, 1))
			is(t, "Start", a.start(root), api.OK)
			is(t, "Step", a.step(99, root), 0)
			a.at(0, 2)
		}
	}
}

// P15.4: while a cycle marks: what it has marked, what was noted, and the roots of its Start do not count any more.
func TestFullMarking(t *testing.T) {
	a := begin(t, 100)
	s, text := a.str("s"), a.str("text")
	x, y := a.table(s), a.table()
	a.start(x)
	a.step(1, x)
	a.marks(s, x)
	made := a.table()
	a.set(x, num(1), num(1))
	is(t, "Str", a.str("text"), text)
	is(t, "Full", a.full(y), 4)
	a.there(y)
	if a.heap.Has(made) {
		t.Error(made)
	}
}

// P15.4: while a cycle sweeps: what it has marked, what was made, and texts that were told since do not count any more; the list is a new one.
func TestFullSweeping(t *testing.T) {
	a := begin(t, 100)
	s, x := a.str("s"), a.table()
	y, text := a.table(), a.str("text")
	lost := a.table()
	a.sweeps(x, y)
	is(t, "Step", a.step(1, x, y), 1)
	made := a.cell(none)
	is(t, "number", made.N, s.N)
	is(t, "Str", a.str("text"), text)
	other := a.thread()
	is(t, "Full", a.full(y, other), 4)
	a.there(y, other)
	a.at(0, 1)
	if a.heap.Has(lost) {
		t.Error(lost)
	}
	is(t, "Full", a.full(), 2)
}

// P15.4: again and again, with a cycle begun between: each time one more has come to its end.
func TestFullAgain(t *testing.T) {
	a := begin(t, 100)
	x := a.table(a.str("s"))
	for cycle := range 8 {
		a.at(0, cycle)
		a.start(x)
		a.step(cycle%5, x)
		a.cell(none)
		a.at(a.plain.phase, cycle)
		is(t, "Full", a.full(x), 1)
	}
}

// P15.4: an empty heap.
func TestFullEmpty(t *testing.T) {
	a := begin(t, 1)
	is(t, "Full", a.full(), 0)
	is(t, "Full", a.full(never()...), 0)
	a.at(0, 2)
}

// P15.4: many objects, one behind the other, all of them reached, or none.
func TestFullMany(t *testing.T) {
	h := newHeap(t, greatest)
	c := newCollector(t, h)
	first, _ := h.Table()
	x := first
	for n := range int64(mostObjects - 2) {
		y, _ := h.Table()
		if n%2 == 0 {
			h.SetMeta(y, x)
		} else {
			h.Set(y, x, x)
		}
		x = y
	}
	h.SetMeta(first, x)
	lost, _ := h.Str("lost")
	freed, err := c.Full([]api.Value{x})
	is(t, "Full", []any{freed, err, h.Has(lost), len(h.Objects())}, []any{1, api.OK, false, mostObjects - 1})
	freed, err = c.Full([]api.Value{lost})
	is(t, "Full", []any{freed, err, h.Used()}, []any{mostObjects - 1, api.OK, 0})
}
