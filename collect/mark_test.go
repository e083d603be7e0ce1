package collect_test

import (
	"math"
	"testing"

	"twinstep/api"
)

// mark_test.go: P15.3 by hand: phase 1.

// P15.3: the first one of the line is gone through; its kids stand behind all that are in the line.
func TestLine(t *testing.T) {
	a := begin(t, 100)
	e, d := a.str("e"), a.str("d")
	c := a.table(e)
	b := a.table(d)
	x := a.table(b, c)
	a.str("rest")
	all := a.heap.Objects()
	a.start(x)
	a.marks(x)
	for _, marked := range [][]api.Value{{x, b, c}, {x, b, c, d}, {x, b, c, d, e}, {x, b, c, d, e}, {x, b, c, d, e}} {
		is(t, "Step", a.step(1, x), 0)
		a.at(1, 0)
		a.marks(marked...)
	}
	a.step(1, x)
	a.at(2, 0)
	a.marks(x, b, c, d, e)
	a.there(all...)
}

// P15.3: kids stand in the line in heap's order: a metatable ahead of the keys and their values.
func TestKidsOrder(t *testing.T) {
	a := begin(t, 100)
	leaf := []api.Value{a.str("0"), a.str("1"), a.str("2")}
	m, k, v := a.table(leaf[0]), a.table(leaf[1]), a.table(leaf[2])
	x := a.table()
	a.set(x, k, v)
	a.setMeta(x, m)
	a.start(x)
	a.step(1)
	a.marks(x, m, k, v)
	for at := range leaf {
		a.step(1)
		a.marks(append([]api.Value{x, m, k, v}, leaf[:at+1]...)...)
	}
}

// P15.3: no step is done for an n below 1, whatever the phase.
func TestNoStep(t *testing.T) {
	for phase := range 3 {
		a, root := inPhase(t, phase)
		for _, n := range []int{0, -1, -2, math.MinInt32, math.MinInt + 1, math.MinInt} {
			is(t, "Step", a.step(n), 0)
			is(t, "Step", a.step(n, root, obj(api.KTable, 3)), 0)
			a.at(phase, 0)
		}
		a.there(root, obj(api.KStr, 1), obj(api.KTable, 3))
	}
}

// P15.3: one that is idle does nothing, however often it is told to.
func TestIdle(t *testing.T) {
	a, root := inPhase(t, 0)
	for _, n := range []int{1, 2, 99, math.MaxInt} {
		is(t, "Step", a.step(n), 0)
		is(t, "Step", a.step(n, root), 0)
		a.at(0, 0)
	}
	a.there(root, obj(api.KStr, 1), obj(api.KTable, 3))
}

// P15.3: more steps than a cycle takes: it ends, and none begins; in each phase.
func TestMore(t *testing.T) {
	for _, n := range []int{50, math.MaxInt32, math.MaxInt - 1, math.MaxInt} {
		for phase := 1; phase < 3; phase++ {
			a, root := inPhase(t, phase)
			is(t, "Step", a.step(n, root), 1)
			a.at(0, 1)
			is(t, "Step", a.step(n, root), 0)
			a.at(0, 1)
		}
	}
}

// P15.3: how many steps a cycle takes: one for each that is gone through in the line, one for the end of marking, one for each of the list, one for the end.
func TestHowMany(t *testing.T) {
	for n := range 11 {
		a, root := inPhase(t, 1)
		freed := a.step(n, root)
		switch {
		case n < 3:
			a.at(1, 0)
		case n < 7:
			a.at(2, 0)
		default:
			a.at(0, 1)
		}
		want := 0
		if n >= 6 {
			want = 1
		}
		is(t, "Step", freed, want)
		rest := a.step(7-n, root)
		is(t, "freed in all", freed+rest, 1)
		a.at(0, 1)
	}
}

// P15.3: steps that end just at the end of a phase; the next one alone does what comes then.
func TestPhaseEnds(t *testing.T) {
	a, root := inPhase(t, 1)
	a.step(2, root)
	a.at(1, 0)
	a.step(1, root)
	a.at(2, 0)
	is(t, "Step", a.step(3, root), 1)
	a.at(2, 0)
	a.marks(root, obj(api.KStr, 1))
	is(t, "Step", a.step(1, root), 0)
	a.at(0, 1)
	a.marks()
}

// P15.3: without roots nothing is reached.
func TestNoRoots(t *testing.T) {
	a := begin(t, 100)
	x := a.table(a.str("s"), a.table(), a.fn(a.cell(num(1))), a.thread())
	a.set(x, x, x)
	a.start()
	a.marks()
	a.step(1)
	a.at(2, 0)
	a.marks()
	for range 6 {
		is(t, "Step", a.step(1), 1)
	}
	is(t, "Step", a.step(1), 0)
	a.at(0, 1)
	a.there()
}

// P15.3: an empty heap, and one in which the first objects are made while it is gone through.
func TestEmpty(t *testing.T) {
	a := begin(t, 100)
	for cycle := range 3 {
		a.start()
		a.step(1)
		a.at(2, cycle)
		a.step(1)
		a.at(0, cycle+1)
	}
	a.start()
	x := a.table()
	a.marks()
	a.step(1)
	a.marks(x)
	a.step(9)
	a.there(x)
	a.full()
	a.start()
	a.step(1)
	y := a.table()
	a.step(1)
	a.at(0, 6)
	a.there(y)
}

// P15.3: the roots count at Start, and at the end of marking; those of the steps between do not.
func TestRootsChange(t *testing.T) {
	a := begin(t, 100)
	kid := a.str("kid")
	x, y, z, last := a.table(), a.table(kid), a.table(), a.table()
	a.start(x, z)
	a.step(1, y)
	a.marks(x, z)
	a.step(1, y, last)
	a.at(1, 0)
	a.marks(x, z)
	a.step(1, last, y, last, none, obj(api.KTable, 77))
	a.at(2, 0)
	a.marks(x, z, y, kid, last)
	is(t, "Step", a.step(99), 0)
	a.start(x)
	a.step(2)
	a.at(2, 1)
	a.marks(x)
	is(t, "Step", a.step(99, x), 4)
	a.there(x)
}

// P15.3: roots that lead far are gone through at once at the end of marking.
func TestRootsFar(t *testing.T) {
	a := begin(t, 100)
	x := a.str("s")
	for range 6 {
		x = a.table(a.fn(a.cell(x)))
	}
	all := a.heap.Objects()
	a.start()
	a.step(1, x)
	a.at(2, 0)
	a.marks(all...)
	is(t, "Step", a.step(99), 0)
}

// P15.3: objects that lead to themselves, and to one another, are gone through once, and freed if nothing else leads to them.
func TestRound(t *testing.T) {
	a := begin(t, 100)
	x := a.table()
	a.set(x, x, x)
	a.setMeta(x, x)
	c := a.cell(none)
	f := a.fn(c, c)
	a.store(c, f)
	y, b := a.table(f), a.thread()
	a.setMeta(x, y)
	a.setMeta(y, x)
	a.state(b, api.Thread{By: b.N, Vals: []api.Value{b, b}})
	a.start(x, b)
	a.step(5)
	a.at(1, 0)
	a.marks(x, y, c, f, b)
	a.step(1)
	a.at(2, 0)
	a.step(99)
	a.there(x, y, c, f, b)
	is(t, "Full", a.full(c), 3)
	a.there(c, f)
	is(t, "Full", a.full(), 2)
}

// P15.3: what a dead place leads to is reached as long as there is that place.
func TestDeadPlace(t *testing.T) {
	a := begin(t, 100)
	k, v := a.str("key"), a.str("value")
	x := a.table()
	a.set(x, k, v)
	a.set(x, k, none)
	is(t, "Full", a.full(x), 1)
	a.there(k, x)
	a.set(x, num(1), num(1))
	is(t, "Full", a.full(x), 1)
	a.there(x)
}

// P15.3: all that a thread leads to: those that resumed it, its values, and all lists of its frames.
func TestThread(t *testing.T) {
	a := begin(t, 100)
	var list []api.Value
	for at := range 10 {
		list = append(list, a.str(string(rune('0'+at))))
	}
	by, f := a.thread(), a.fn()
	a.state(by, api.Thread{Vals: list[:1]})
	b := a.thread()
	a.state(b, api.Thread{By: by.N, Vals: list[1:3], Levels: []api.Level{
		{Kind: api.LFrame, Frame: api.Frame{Closure: f.N, Slots: list[3:4], Dots: list[4:5]}},
		{Kind: api.LCatch},
		{Kind: api.LFrame, Frame: api.Frame{Closure: f.N, Vals: list[5:6], Regs: list[6:8]}},
	}})
	is(t, "Full", a.full(b), 2)
	a.there(append(list[:8:8], by, f, b)...)
	a.state(b, api.Thread{})
	is(t, "Full", a.full(b), 10)
	a.there(b)
}
