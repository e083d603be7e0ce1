package heap_test

import (
	"strings"
	"testing"

	"twinstep/api"
)

// watch_test.go: P14.6 by hand.

// dirtyIs holds Dirty against a list, and asks that all is forgotten then.
func (a *asked) dirtyIs(want ...api.Value) {
	a.t.Helper()
	sameList(a, "Dirty", none, a.dirty(), want)
	sameList(a, "Dirty twice", none, a.dirty(), nil)
}

// P14.6: nothing is noted as long as nobody watches.
func TestWatchOff(t *testing.T) {
	a := begin(t, 100)
	list := oneOfEach(a)
	a.dirtyIs()
	a.watch(false)
	a.set(list[1], num(1), num(1))
	a.dirtyIs()
	a.watch(true)
	a.dirtyIs()
	b := a.aThread()
	a.watch(false)
	a.dirtyIs()
	a.store(list[4], b)
	a.watch(true)
	a.dirtyIs()
}

// P14.6: Watch forgets what was noted, be it on already or not.
func TestWatchAgain(t *testing.T) {
	a := begin(t, 100)
	a.watch(true)
	x := a.aTable()
	a.watch(true)
	a.dirtyIs()
	y := a.aTable()
	a.dirtyIs(y)
	a.set(x, num(1), y)
	a.watch(false)
	a.watch(true)
	a.dirtyIs()
	a.set(x, num(1), y)
	a.dirtyIs(x)
}

// P14.6: each object that is made is noted, of whatever kind; by rising numbers, each once.
func TestDirtyMade(t *testing.T) {
	a := begin(t, 100)
	first := oneOfEach(a)
	for _, v := range first {
		a.free(v)
	}
	a.watch(true)
	for range 3 {
		list := oneOfEach(a)
		a.dirtyIs(a.heap.Objects()...)
		a.aThread()
		a.free(list[4])
		a.aTable()
		v := obj(api.KTable, list[4].N)
		a.dirtyIs(v, a.heap.Objects()[5])
		for _, v := range a.heap.Objects() {
			a.free(v)
		}
		a.dirtyIs()
	}
}

// P14.6: what Set, SetMeta and Store told OK on is noted, be it as it was or not; what they put in is not.
func TestDirtyChanged(t *testing.T) {
	a := begin(t, 100)
	x, y, c, s := a.aTable(), a.aTable(), a.aCell(none), a.aStr("s")
	a.watch(true)
	is(t, "Set", a.set(x, s, y), api.OK)
	a.dirtyIs(x)
	is(t, "Set the same", a.set(x, s, y), api.OK)
	a.dirtyIs(x)
	is(t, "Set to nil", a.set(x, s, none), api.OK)
	a.dirtyIs(x)
	is(t, "Set none to nil", a.set(y, num(1), none), api.OK)
	a.dirtyIs(y)
	is(t, "SetMeta", a.setMeta(x, y), api.OK)
	a.dirtyIs(x)
	is(t, "SetMeta to nil", a.setMeta(x, none), api.OK)
	is(t, "SetMeta to nil", a.setMeta(y, none), api.OK)
	a.dirtyIs(x, y)
	is(t, "Store", a.store(c, x), api.OK)
	a.dirtyIs(c)
	for range 3 {
		a.store(c, none)
		a.set(y, num(1), num(1))
		a.setMeta(x, x)
		a.setMeta(y, x)
	}
	a.dirtyIs(x, y, c)
}

// P14.6: texts that Str told again and threads whose State was told are noted; all that is but asked is not.
func TestDirtyTold(t *testing.T) {
	a := begin(t, 100)
	list := oneOfEach(a)
	s, x, f, b, c := list[0], list[1], list[2], list[3], list[4]
	a.set(x, num(1), s)
	a.watch(true)
	a.told()
	a.heap.Known("text")
	a.dirtyIs()
	a.aStr("text")
	a.dirtyIs(s)
	a.state(b, func(*api.Thread) {})
	a.dirtyIs(b)
	for _, v := range []api.Value{s, x, f, c, none, num(b.N), obj(api.KThread, 99)} {
		if a.state(v, func(*api.Thread) {}) {
			t.Error(v)
		}
	}
	a.dirtyIs()
	a.state(b, func(s *api.Thread) { s.Vals = []api.Value{x} })
	a.aStr("text")
	a.aStr("text")
	a.dirtyIs(s, b)
	a.state(b, func(s *api.Thread) { s.Vals = []api.Value{f} })
	a.watch(false)
	a.watch(true)
	a.dirtyIs()
}

// P14.6: calls that fail note nothing.
func TestDirtyRefused(t *testing.T) {
	a := begin(t, 16)
	list := oneOfEach(a)
	wrong := obj(api.KStr, 99)
	cells := make([]api.Value, 61)
	for i := range cells {
		cells[i] = list[4]
	}
	a.free(list[2])
	b := a.aTable()
	a.aTable()
	a.uses(16)
	a.watch(true)
	for _, v := range append(list, wrong, none) {
		a.set(v, none, num(1))
		a.set(v, num(1), wrong)
		a.set(v, num(1), num(1))
		a.setMeta(v, wrong)
		a.store(v, wrong)
		a.free(obj(api.KInt, v.N))
		a.heap.Next(v, num(9))
	}
	a.setMeta(list[0], b)
	a.store(b, none)
	a.str("new")
	a.str(strings.Repeat("x", 65536))
	a.table()
	a.thread()
	a.cell(none)
	a.cell(wrong)
	a.fn(0)
	a.fn(-1)
	a.fn(0, cells...)
	a.dirtyIs()
}

// P14.6: an object that is freed while it is noted is told no more; one that has its number then is.
func TestDirtyFreed(t *testing.T) {
	a := begin(t, 100)
	x, y, c := a.aTable(), a.aTable(), a.aCell(none)
	a.watch(true)
	s := a.aStr("s")
	a.set(x, num(1), num(1))
	a.setMeta(y, x)
	a.store(c, x)
	a.free(x)
	a.free(s)
	a.dirtyIs(y, c)
	a.set(y, num(1), num(1))
	a.free(y)
	z := a.aCell(num(3))
	if z.N != x.N {
		t.Error(z)
	}
	a.dirtyIs(z)
	a.store(z, num(4))
	a.free(z)
	a.aStr("s")
	a.free(a.aStr("s"))
	a.dirtyIs()
	if again := a.aTable(); again != x {
		t.Error(again)
	}
	a.watch(true)
	a.dirtyIs()
	a.free(x)
	a.dirtyIs()
}

// P14.6: as many notes as there may be objects.
func TestDirtyMany(t *testing.T) {
	h := made(t, mostObjects)
	h.Watch(true)
	for range mostObjects {
		if _, err := h.Cell(none); err != api.OK {
			t.Fatal(err)
		}
	}
	h.Free(obj(api.KCell, 5))
	list := h.Dirty()
	if len(list) != mostObjects-1 || list[3] != obj(api.KCell, 4) || list[4] != obj(api.KCell, 6) || list[mostObjects-2] != obj(api.KCell, mostObjects) {
		t.Error(len(list))
	}
	// A sweep asks for what was noted ahead of each object.
	for n := int64(1); n <= mostObjects; n++ {
		if len(h.Dirty()) != 0 {
			t.Fatal(n)
		}
	}
	h.Store(obj(api.KCell, 9), num(1))
	if list := h.Dirty(); len(list) != 1 || list[0] != obj(api.KCell, 9) {
		t.Error(list)
	}
}
