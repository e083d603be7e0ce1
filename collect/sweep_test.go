package collect_test

import (
	"strings"
	"testing"

	"twinstep/api"
	"twinstep/heap"
)

// sweep_test.go: P15.3 by hand: phase 2.

// sweeps goes on to the beginning of phase 2.
func (a *asked) sweeps(roots ...api.Value) {
	a.t.Helper()
	a.start(roots...)
	for a.c.Phase() == 1 {
		a.step(1, roots...)
	}
	a.at(2, a.plain.cycles)
}

// P15.3: the objects are looked at by rising numbers, one a step; each that is not marked is freed then.
func TestSweep(t *testing.T) {
	a := begin(t, 100)
	s, x, c := a.str("s"), a.table(), a.cell(none)
	f, b, u := a.fn(), a.thread(), a.str("u")
	a.sweeps(x, b)
	left := []api.Value{s, x, c, f, b, u}
	for _, v := range []api.Value{s, x, c, f, b, u} {
		freed := a.step(1, x, b)
		if v == x || v == b {
			is(t, "Step", freed, 0)
		} else {
			is(t, "Step", freed, 1)
			for at := range left {
				if left[at] == v {
					left = append(left[:at:at], left[at+1:]...)
					break
				}
			}
		}
		a.there(left...)
		a.marks(x, b)
		a.at(2, 0)
	}
	is(t, "Step", a.step(1), 0)
	a.at(0, 1)
	a.there(x, b)
}

// P15.3: a step tells how many it has freed itself.
func TestSweepCounts(t *testing.T) {
	a := begin(t, 100)
	for range 9 {
		a.str(strings.Repeat("x", len(a.heap.Objects())))
		a.table()
	}
	root := a.table()
	a.sweeps(root)
	for _, n := range []int{1, 2, 3, 0, 5, 7} {
		is(t, "Step", a.step(n, root), n)
	}
	is(t, "Step", a.step(1, root), 0)
	a.at(2, 0)
	is(t, "Step", a.step(1, root), 0)
	a.at(0, 1)
}

// P15.3: what is made while the list is swept has numbers behind the list, or those that came free, and stays.
func TestSweepMade(t *testing.T) {
	for _, make := range []func(*asked) api.Value{
		func(a *asked) api.Value { return a.table() },
		func(a *asked) api.Value { return a.str("new") },
		func(a *asked) api.Value { return a.cell(none) },
		func(a *asked) api.Value { return a.fn() },
		func(a *asked) api.Value { return a.thread() },
	} {
		a := begin(t, 100)
		one, two, three := a.table(), a.table(), a.table()
		a.sweeps(two)
		x := make(a)
		is(t, "number", x.N, 4)
		a.marks(two)
		is(t, "Step", a.step(1), 1)
		a.marks(two, x)
		y := a.table()
		is(t, "number comes again", y, one)
		a.marks(two, x)
		is(t, "Step", a.step(1), 0)
		a.marks(two, x, y)
		is(t, "Step", a.step(1), 1)
		z := make(a)
		is(t, "number", z.N == three.N, x.Kind != api.KStr)
		a.step(9)
		a.at(0, 1)
		a.there(unlike(two, x, y, z)...)
		is(t, "Full", a.full(two), len(unlike(x, y, z)))
	}
}

// unlike answers each value once.
func unlike(list ...api.Value) []api.Value {
	var out []api.Value
	seen := map[api.Value]bool{}
	for _, v := range list {
		if !seen[v] {
			out = append(out, v)
		}
		seen[v] = true
	}
	return out
}

// P15.3: each number comes again as soon as it is free: none of the new objects is freed, of whatever kind.
func TestNumbersAgain(t *testing.T) {
	a := begin(t, 1000)
	for range 3 {
		a.table()
		a.cell(none)
		a.str(strings.Repeat("y", 16*len(a.heap.Objects())))
		a.thread()
	}
	a.sweeps()
	want := int64(1)
	for a.c.Phase() == 2 {
		if a.step(1) == 1 {
			x := a.table()
			is(t, "number", x.N, want)
			want++
		}
	}
	is(t, "numbers", want, 13)
	is(t, "objects", len(a.heap.Objects()), 12)
	is(t, "Full", a.full(), 12)
}

// P15.3: texts that Str tells again while the list is swept: ahead of it, at it, and behind it.
func TestTextSweeping(t *testing.T) {
	a := begin(t, 100)
	behind, next, x := a.str("behind"), a.str("next"), a.table()
	ahead, known, last := a.str("ahead"), a.str("known"), a.str("last")
	a.sweeps(x)
	is(t, "Step", a.step(1, x), 1)
	is(t, "Str", a.str("next"), next)
	is(t, "Str", a.str("ahead"), ahead)
	is(t, "Str", a.str("ahead"), ahead)
	for _, h := range []*heap.Heap{a.heap, a.plain.heap} {
		if v, ok := h.Known("known"); !ok || v != known {
			t.Error(v, ok)
		}
	}
	again := a.str("behind")
	is(t, "Str", again, behind)
	a.marks(x)
	is(t, "Step", a.step(1, x), 0)
	a.marks(x, next, ahead, again)
	is(t, "Step", a.step(3, x), 1)
	is(t, "Str", a.str("last"), last)
	is(t, "Step", a.step(1, x), 0)
	a.at(2, 0)
	a.there(x, next, ahead, again, last)
	a.step(1, x)
	is(t, "Full", a.full(x), 4)
}

// P15.3: a text that is at the end of the list is told when all of the list was looked at but it.
func TestTextLate(t *testing.T) {
	a := begin(t, 100)
	s := a.str("s")
	a.sweeps()
	is(t, "Str", a.str("s"), s)
	is(t, "Step", a.step(1), 0)
	a.marks(s)
	a.at(2, 0)
	a.step(1)
	a.there(s)
	a.start()
	is(t, "Step", a.step(2), 1)
	is(t, "Str", a.str("s"), s)
	a.step(9)
	a.there(s)
}

// P15.3: in phase 2 what was noted is marked alone, not what it leads to; nor are the roots marked.
func TestSweepNoted(t *testing.T) {
	a := begin(t, 100)
	x := a.table()
	lost, kid := a.table(), a.table()
	a.set(lost, num(1), kid)
	a.sweeps(x)
	a.set(lost, num(2), num(2))
	is(t, "Step", a.step(1, x), 0)
	a.marks(x, lost)
	is(t, "Step", a.step(99, x), 1)
	a.there(x, lost)
}

// P15.3: what is changed while the list is swept, or taken out of what leads to it, stays as it is marked.
func TestSweepChanged(t *testing.T) {
	for _, h := range holders() {
		a := begin(t, 100)
		v, x := a.table(), h.make(a)
		y := h.make(a)
		h.put(a, x, v)
		a.sweeps(x, y)
		h.put(a, y, v)
		h.put(a, x, none)
		a.step(1, x, y)
		h.put(a, y, none)
		is(t, h.name, a.step(99, x, y), 0)
		is(t, h.name, a.full(x, y), 1)
		a.there(x, y)
	}
}

// P15.3: nothing is noted any more when a cycle has come to its end, by steps or as a whole.
func TestWatchEnds(t *testing.T) {
	a, root := inPhase(t, 2)
	a.step(99, root)
	for range 2 {
		a.table()
		a.str("text")
		is(t, "Dirty", len(a.heap.Dirty()), 0)
		a.full(root)
	}
	a.sweeps(root)
	a.step(len(a.heap.Objects()), root)
	a.at(2, a.plain.cycles)
	x := a.table()
	is(t, "Dirty", a.heap.Dirty(), []api.Value{x})
	is(t, "Dirty", a.plain.heap.Dirty(), []api.Value{x})
	a.table()
	a.step(1, root)
	is(t, "Dirty", len(a.heap.Dirty()), 0)
	is(t, "Dirty", len(a.plain.heap.Dirty()), 0)
}

// P15.3: a heap that is full: its room comes back as the list is swept.
func TestFullHeap(t *testing.T) {
	a := begin(t, 12)
	x := a.table(a.str("s"))
	a.table()
	a.table()
	a.cell(none)
	a.fn()
	is(t, "Used", a.heap.Used(), 12)
	refused := func() {
		t.Helper()
		if _, err := a.both("Table", (*heap.Heap).Table); err != api.ErrRoom {
			t.Fatal(err)
		}
	}
	refused()
	a.start(x)
	refused()
	a.step(2, x)
	refused()
	a.step(3, x)
	a.at(2, 0)
	refused()
	is(t, "Step", a.step(1, x), 1)
	y := a.table()
	refused()
	is(t, "Step", a.step(99, x), 3)
	is(t, "Used", a.heap.Used(), 7)
	is(t, "Full", a.full(x, y), 0)
	is(t, "Full", a.full(y), 2)
}

// P15.3: as many objects as there may be, one behind the other, step by step.
func TestMostObjects(t *testing.T) {
	h := newHeap(t, greatest)
	c := newCollector(t, h)
	x, _ := h.Table()
	for range mostObjects - 1 {
		y, _ := h.Table()
		h.Set(y, num(1), x)
		x = y
	}
	if v, err := h.Table(); err != api.ErrRoom || v != none {
		t.Fatal(v, err)
	}
	roots := []api.Value{x}
	for _, list := range [][]api.Value{roots, nil} {
		c.Start(list)
		steps, freed := 0, 0
		for ; c.Phase() != 0; steps++ {
			n, _ := c.Step(1, list)
			freed += n
		}
		is(t, "steps", steps, mostObjects*(1+len(list))+2)
		is(t, "freed", freed, mostObjects*(1-len(list)))
	}
	is(t, "Cycles", c.Cycles(), 2)
	is(t, "Used", h.Used(), 0)
}
