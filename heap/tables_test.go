package heap_test

import (
	"math"
	"testing"

	"twinstep/api"
	"twinstep/heap"
)

// tables_test.go: P14.2 by hand.

// P14.2: a table's size, while keys come, die and come back.
func TestSetSizes(t *testing.T) {
	a := begin(t, 9)
	x := a.aTable()
	a.uses(2)
	for _, step := range []struct {
		key  int64
		v    api.Value
		want api.Errno
		used int
	}{
		{1, num(10), api.OK, 4},
		{1, num(11), api.OK, 4},
		{2, none, api.OK, 4},
		{2, num(20), api.OK, 6},
		{3, api.Value{Kind: api.KFalse}, api.OK, 8},
		{4, num(40), api.ErrRoom, 8},
		{4, none, api.OK, 8},
		{3, num(30), api.OK, 8},
		{2, none, api.OK, 6},
		{2, none, api.OK, 6},
		{2, num(21), api.OK, 8},
		{2, none, api.OK, 6},
		{4, num(40), api.OK, 8},
		{2, num(22), api.ErrRoom, 8},
		{1, none, api.OK, 6},
		{3, none, api.OK, 4},
		{4, none, api.OK, 2},
	} {
		is(t, a.last, a.set(x, num(step.key), step.v), step.want)
		a.uses(step.used)
	}
	a.leads(x)
	a.free(x)
	a.uses(0)
}

// P14.2: a dead key that is to have a value again needs room for it, for others may have taken what it left.
func TestSetDead(t *testing.T) {
	for room := range 4 {
		a := begin(t, 10)
		x := a.aTable()
		a.set(x, num(1), num(1))
		a.set(x, num(2), num(2))
		a.set(x, num(1), none)
		for a.heap.Used() < 10-room {
			a.aCell(none)
		}
		want := api.OK
		if room < 2 {
			want = api.ErrRoom
		}
		is(t, "a dead key", a.set(x, num(1), num(3)), want)
		is(t, "nil to it", a.set(x, num(1), none), api.OK)
		is(t, "a new key", a.set(x, num(3), num(3)), want)
		is(t, "nil to that", a.set(x, num(3), none), api.OK)
		is(t, "one that is there", a.set(x, num(2), num(4)), api.OK)
	}
}

// P14.2: what is refused drives no dead place out.
func TestRefusedKeeps(t *testing.T) {
	a := begin(t, 6)
	x, s := a.aTable(), a.aStr("s")
	a.set(x, s, num(1))
	a.set(x, s, none)
	a.aFunc(0)
	a.uses(5)
	is(t, "no room", a.set(x, num(1), num(1)), api.ErrRoom)
	is(t, "no value", a.set(x, num(1), api.Value{Kind: api.KTable, N: 9}), api.ErrValue)
	is(t, "nil", a.set(x, num(1), none), api.OK)
	a.leads(x, s)
}

// P14.2: keys and values of each kind, and those that may not be.
func TestSetValues(t *testing.T) {
	a := begin(t, 2000)
	may, not := someValues(a)
	x := a.aTable()
	for i, k := range may {
		want := api.OK
		if k == none {
			want = api.ErrValue
		}
		is(t, "key", a.set(x, k, may[len(may)-1-i]), want)
	}
	used := a.heap.Used()
	for _, v := range not {
		is(t, "wrong key", a.set(x, v, num(1)), api.ErrValue)
		is(t, "wrong key, nil", a.set(x, v, none), api.ErrValue)
		is(t, "wrong value", a.set(x, num(1), v), api.ErrValue)
		is(t, "wrong value of a new key", a.set(x, num(-77), v), api.ErrValue)
	}
	a.uses(used)
}

// P14.2: an object that was freed is no key, be it dead or not in a table, but what it tells stays.
func TestSetFreed(t *testing.T) {
	a := begin(t, 100)
	x, s, y := a.aTable(), a.aStr("s"), a.aTable()
	a.set(x, s, y)
	a.free(s)
	a.free(y)
	if v := a.heap.Get(x, s); v != y {
		t.Error(v)
	}
	is(t, "a freed key that is there", a.set(x, s, num(1)), api.ErrValue)
	is(t, "to nil", a.set(x, s, none), api.ErrValue)
	a.leads(x, s, y)
	if v := a.aTable(); v.N != s.N {
		t.Error(v)
	}
	is(t, "another kind has its number", a.set(x, s, num(1)), api.ErrValue)
	a.leads(x, s, y)
	if v := a.aTable(); v != y {
		t.Error(v)
	}
	is(t, "the elder value has a new object", a.set(x, num(1), y), api.OK)
	a.uses(2 + 4 + 2 + 2)
}

// The order of errors of Set, at what breaks several rules.
func TestSetOrder(t *testing.T) {
	a := begin(t, 3)
	x, s := a.aTable(), a.aStr("s")
	wrong := api.Value{Kind: api.KTrue, N: 1}
	is(t, "no table, no key", a.set(s, none, wrong), api.ErrObject)
	is(t, "no table, no room", a.set(num(1), num(1), num(1)), api.ErrObject)
	is(t, "nil key, no room", a.set(x, none, num(1)), api.ErrValue)
	is(t, "nil key, nil", a.set(x, none, none), api.ErrValue)
	is(t, "wrong key, no room", a.set(x, wrong, num(1)), api.ErrValue)
	is(t, "wrong value, no room", a.set(x, num(1), wrong), api.ErrValue)
	is(t, "no room", a.set(x, num(1), num(1)), api.ErrRoom)
}

// P14.2: what a table with as many keys as may be says to one more: ErrFull, if there is room for it, else ErrRoom.
func TestFullTable(t *testing.T) {
	for room := range 4 {
		h := made(t, 2+2*mostObjects+room)
		x := manyKeys(t, h)
		want := api.ErrFull
		if room < 2 {
			want = api.ErrRoom
		}
		h.Watch(true)
		used := h.Used()
		for range 2 {
			is(t, "one more", h.Set(x, num(-5), num(1)), want)
		}
		if h.Used() != used || h.Len(x) != mostObjects || len(h.Dirty()) != 0 {
			t.Error(room, h.Used(), h.Len(x))
		}
		is(t, "nil to one more", h.Set(x, num(-5), none), api.OK)
		is(t, "one that is there", h.Set(x, num(9), num(1)), api.OK)
		is(t, "one less", h.Set(x, num(9), none), api.OK)
		is(t, "one more again", h.Set(x, num(-5), num(1)), api.OK)
		is(t, "full again", h.Set(x, num(9), num(1)), want)
		if h.Used() != used || h.Len(x) != 8 {
			t.Error(room, h.Used(), h.Len(x))
		}
	}
}

// manyKeys answers a table in which all integers up to 65536 have values.
func manyKeys(t *testing.T, h *heap.Heap) api.Value {
	t.Helper()
	x, err := h.Table()
	for n := int64(1); n <= mostObjects && err == api.OK; n++ {
		err = h.Set(x, num(n), num(-n))
	}
	if err != api.OK || h.Used() != 2+2*mostObjects {
		t.Fatal(err, h.Used())
	}
	return x
}

// P14.2: Get, Next and Len are the table's.
func TestTables(t *testing.T) {
	a := begin(t, 100)
	x, s := a.aTable(), a.aStr("s")
	a.set(x, num(1), s)
	a.set(x, s, num(7))
	a.set(x, num(2), x)
	a.set(x, api.Value{Kind: api.KLib, N: 3}, api.Value{Kind: api.KTrue})
	if a.heap.Len(x) != 2 || a.heap.Get(x, s) != num(7) || a.heap.Get(x, num(3)) != none {
		t.Error(a.heap.Len(x), a.heap.Get(x, s))
	}
	a.set(x, s, none)
	for _, step := range [][3]api.Value{
		{none, num(1), s},
		{{Kind: api.KNil, N: 4}, num(1), s},
		{num(1), num(2), x},
		{s, num(2), x},
		{num(2), {Kind: api.KLib, N: 3}, {Kind: api.KTrue}},
		{{Kind: api.KLib, N: 3}, none, none},
	} {
		if k, v, err := a.heap.Next(x, step[0]); k != step[1] || v != step[2] || err != api.OK {
			t.Error(step, k, v, err)
		}
	}
	a.set(x, num(1), none)
	if a.heap.Len(x) != 0 {
		t.Error(a.heap.Len(x))
	}
	a.set(x, num(9), num(9))
	for _, k := range []api.Value{num(1), s, num(3), {Kind: api.KCell, N: 1}} {
		if k, v, err := a.heap.Next(x, k); k != none || v != none || err != api.ErrArg {
			t.Error(k, v, err)
		}
	}
}

// P14.2: what is no table that is there has no keys, no length, no metatable.
func TestNoTable(t *testing.T) {
	a := begin(t, 100)
	x, gone := a.aTable(), a.aTable()
	wrong := append(never(), a.aStr("s"), a.aFunc(0), a.aThread(), a.aCell(x), gone, api.Value{Kind: api.KStr, N: x.N}, num(x.N))
	a.set(x, num(1), num(1))
	a.set(gone, num(1), num(1))
	a.setMeta(gone, x)
	a.free(gone)
	for _, v := range wrong {
		is(t, "Set", a.set(v, num(1), num(2)), api.ErrObject)
		is(t, "SetMeta", a.setMeta(v, x), api.ErrObject)
		is(t, "SetMeta to nil", a.setMeta(v, none), api.ErrObject)
		is(t, "SetMeta to no table", a.setMeta(v, num(1)), api.ErrObject)
		if _, _, err := a.heap.Next(v, none); err != api.ErrObject {
			t.Error(v, err)
		}
		if _, _, err := a.heap.Next(v, num(77)); err != api.ErrObject {
			t.Error(v, err)
		}
		if a.heap.Get(v, num(1)) != none || a.heap.Len(v) != 0 || a.heap.Meta(v) != none {
			t.Error(v)
		}
	}
}

// P14.2: metatables: another one, itself, nil, and what is none.
func TestSetMeta(t *testing.T) {
	a := begin(t, 100)
	x, y, gone := a.aTable(), a.aTable(), a.aTable()
	a.free(gone)
	used := a.heap.Used()
	has := func(want api.Value) {
		t.Helper()
		if m := a.heap.Meta(x); m != want {
			t.Errorf("behind %s: Meta = %v, not %v", a.last, m, want)
		}
	}
	has(none)
	is(t, "nil to none", a.setMeta(x, none), api.OK)
	is(t, "another", a.setMeta(x, y), api.OK)
	has(y)
	wrong := append(never()[1:], gone, a.aStr("s"), a.aFunc(0), a.aThread(), a.aCell(x), num(y.N), api.Value{Kind: api.KStr, N: y.N}, api.Value{Kind: api.KNil, N: y.N}, api.Value{Kind: api.KTable, N: math.MinInt64})
	for _, m := range wrong {
		is(t, "no table", a.setMeta(x, m), api.ErrValue)
		has(y)
	}
	is(t, "itself", a.setMeta(x, x), api.OK)
	has(x)
	a.leads(x, x)
	is(t, "both", a.setMeta(y, x), api.OK)
	is(t, "nil", a.setMeta(x, none), api.OK)
	has(none)
	a.leads(x)
	a.uses(used + 1 + 2 + 8 + 1)
}

// P14.2: a metatable that was freed is told still, and leads to whatever table has its number.
func TestMetaFreed(t *testing.T) {
	a := begin(t, 100)
	x, m := a.aTable(), a.aTable()
	a.setMeta(x, m)
	a.free(m)
	if a.heap.Meta(x) != m || a.heap.Has(m) {
		t.Error(a.heap.Meta(x))
	}
	a.leads(x, m)
	a.aStr("s")
	if a.heap.Meta(x) != m || a.heap.Has(m) {
		t.Error(a.heap.Meta(x))
	}
	is(t, "freed", a.setMeta(x, m), api.ErrValue)
}
