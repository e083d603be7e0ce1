package collect_test

import (
	"math"
	"testing"

	"twinstep/api"
)

// collect_test.go: P15.1 and P15.2 by hand, and the chapter's example.

// P15.1: a new one is idle, and has come to the end of no cycle.
func TestNew(t *testing.T) {
	a := begin(t, 100)
	a.at(0, 0)
	x := a.table(a.str("s"))
	a.at(0, 0)
	a.marks()
	if a.c.Marked(x) {
		t.Error(x)
	}
	h := newHeap(t, 1)
	c := newCollector(t, h)
	is(t, "Phase", c.Phase(), 0)
	is(t, "Cycles", c.Cycles(), 0)
	newCollector(t, newHeap(t, greatest))
}

// P15.1: New changes nothing of the heap, whatever is in it.
func TestNewKeeps(t *testing.T) {
	h := newHeap(t, 100)
	h.Watch(true)
	x, _ := h.Table()
	newCollector(t, h)
	is(t, "Dirty", h.Dirty(), []api.Value{x})
	is(t, "Objects", h.Objects(), []api.Value{x})
}

// P15.1: Phase, Cycles and Marked through some cycles; the marks are told in phases 1 and 2 alone.
func TestTold(t *testing.T) {
	a := begin(t, 100)
	b := a.table()
	x := a.table(b)
	y := a.table(x)
	for cycle := range 4 {
		a.at(0, cycle)
		a.marks()
		a.start(x)
		a.at(1, cycle)
		a.marks(x)
		a.step(2)
		a.at(1, cycle)
		a.marks(x, b)
		a.step(1)
		a.at(2, cycle)
		a.marks(x, b)
		a.step(len(a.heap.Objects()))
		a.at(2, cycle)
		a.marks(x, b)
		a.step(1)
	}
	a.at(0, 4)
	a.there(x, b)
	if a.heap.Has(y) || a.c.Marked(y) {
		t.Error(y)
	}
}

// P15.1: Marked tells of a value, not of its number.
func TestMarkedKinds(t *testing.T) {
	a := begin(t, 100)
	s, c := a.str("s"), a.cell(none)
	f, b := a.fn(c), a.thread()
	x := a.table(s, b)
	a.start(x, f)
	a.step(2, x, f)
	a.marks(s, c, f, b, x)
	for _, v := range []api.Value{s, c, f, b, x} {
		for _, kind := range kinds() {
			if got := a.c.Marked(obj(kind, v.N)); got != (kind == v.Kind) {
				t.Error(v, kind, got)
			}
		}
	}
}

// P15.2: the roots are marked, what they lead to is not; nothing is freed.
func TestStart(t *testing.T) {
	a := begin(t, 100)
	s := a.str("s")
	x := a.table(s)
	y := a.table(x)
	z := a.table()
	is(t, "Start", a.start(y, s), api.OK)
	a.at(1, 0)
	a.marks(y, s)
	a.there(s, x, y, z)
}

// P15.2: the roots stand in the line in order, each once.
func TestStartOrder(t *testing.T) {
	a := begin(t, 100)
	kids := []api.Value{a.str("0"), a.str("1"), a.str("2")}
	x, y, z := a.table(kids[0]), a.table(kids[1]), a.table(kids[2])
	roots := []api.Value{z, x, z, none, num(x.N), x, y, z, y}
	a.start(roots...)
	a.marks(x, y, z)
	a.step(1)
	a.marks(x, y, z, kids[2])
	a.step(1)
	a.marks(x, y, z, kids[2], kids[0])
	a.step(1)
	a.marks(x, y, z, kids[2], kids[0], kids[1])
	a.step(3)
	a.at(1, 0)
	a.step(1)
	a.at(2, 0)
}

// P15.2: Start in each phase; where it is refused nothing changes.
func TestStartRefused(t *testing.T) {
	for phase := range 3 {
		a, root := inPhase(t, phase)
		marked := a.c.Marked(root)
		lost := obj(api.KTable, 3)
		for _, roots := range [][]api.Value{nil, {lost}, {root, lost}, never()} {
			if phase == 0 {
				break
			}
			is(t, "Start", a.start(roots...), api.ErrState)
			a.at(phase, 0)
			is(t, "Marked", a.c.Marked(root), marked)
			is(t, "Marked", a.c.Marked(lost), false)
		}
		if phase == 0 {
			is(t, "Start", a.start(root), api.OK)
		}
		is(t, "Step", a.step(99, root), 1)
		a.at(0, 1)
		is(t, "Start", a.start(root), api.OK)
		is(t, "Start", a.start(root), api.ErrState)
	}
}

// P15.2: what was noted ahead of Start, or marked in the cycle ahead, does not count.
func TestStartForgets(t *testing.T) {
	a := begin(t, 100)
	a.heap.Watch(true)
	a.plain.heap.Watch(true)
	x := a.table()
	y := a.table(x)
	a.start()
	is(t, "Step", a.step(99), 2)
	z := a.table()
	a.start(z)
	a.step(2, z)
	u := a.table(z)
	a.marks(z)
	is(t, "Step", a.step(99, z), 0)
	a.start(u)
	a.marks(u)
	a.step(99, u)
	a.start(z)
	a.marks(z)
	is(t, "Step", a.step(99, z), 1)
	a.there(z)
	if z != x || u != y {
		t.Error("numbers that did not come again: ", x, y, z, u)
	}
}

// P15.2: roots that are none, or are gone, do not stand in the line.
func TestStartWrong(t *testing.T) {
	a := begin(t, 100)
	s, x := a.str("s"), a.table()
	c := a.cell(x)
	gone := a.table()
	a.full(s, x, c)
	a.there(s, x, c)
	for _, roots := range [][]api.Value{nil, {}, never(), {gone}, {obj(api.KCell, s.N), obj(api.KStr, x.N), obj(api.KTable, c.N), obj(api.KThread, 4)}} {
		a.start(roots...)
		a.marks()
		a.step(1)
		a.at(2, a.c.Cycles())
		// The list is ahead still.
		a.full(s, x, c)
	}
	a.start(append(never(), gone, c)...)
	a.marks(c)
	is(t, "Step", a.step(math.MaxInt), 1)
	a.there(x, c)
}

// The chapter's example.
func TestExample(t *testing.T) {
	a := begin(t, 100)
	one := a.table()
	two := a.table()
	a.set(one, num(1), two)
	three := a.table()
	is(t, "numbers", []int64{one.N, two.N, three.N}, []int64{1, 2, 3})
	a.start(one)
	is(t, "Step", a.step(9, one), 1)
	a.there(one, two)
	a.at(0, 1)
	a.start(one)
	a.step(1, one)
	a.set(one, num(1), none)
	is(t, "Table", a.table(two), three)
	a.set(one, num(1), three)
	is(t, "Step", a.step(99, one), 0)
	a.at(0, 2)
	is(t, "Full", a.full(), 3)
	a.there()
}

// P15.1: two of one heap have phases, marks and cycles of their own.
func TestTwo(t *testing.T) {
	h := newHeap(t, 100)
	x, _ := h.Table()
	c, d := newCollector(t, h), newCollector(t, h)
	c.Start([]api.Value{x})
	is(t, "Phase", []int{c.Phase(), d.Phase()}, []int{1, 0})
	is(t, "Marked", []bool{c.Marked(x), d.Marked(x)}, []bool{true, false})
	c.Step(99, []api.Value{x})
	is(t, "Cycles", []int{c.Cycles(), d.Cycles()}, []int{1, 0})
	is(t, "Start", d.Start(nil), api.OK)
}
