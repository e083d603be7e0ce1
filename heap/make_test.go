package heap_test

import (
	"math"
	"strings"
	"testing"

	"twinstep/api"
	"twinstep/heap"
)

// make_test.go: the chapter's examples, and P14.1 by hand.

func TestExamples(t *testing.T) {
	a := begin(t, 10)
	ab := a.aStr("ab")
	if ab != (api.Value{Kind: api.KStr, N: 1}) || a.aStr("ab") != ab {
		t.Error(ab)
	}
	x := a.aTable()
	is(t, "Set", a.set(x, num(1), ab), api.OK)
	a.uses(5)
	c := a.aCell(num(5))
	if x != (api.Value{Kind: api.KTable, N: 2}) || c.N != 3 || a.heap.Load(c) != num(5) {
		t.Error(x, c)
	}
	a.leads(x, ab)
	_, err := a.str(strings.Repeat("x", 80))
	is(t, "80 bytes", err, api.ErrRoom)
	a.uses(6)
	is(t, "Free", a.free(ab), api.OK)
	if v := a.aStr("c"); v.N != 1 || a.heap.Serial(x) != 1 {
		t.Error(v, a.heap.Serial(x))
	}
}

// P14.1: bounds that may be, and those that may not.
func TestNew(t *testing.T) {
	for _, max := range []int{0, -1, -2, math.MinInt32, math.MinInt, greatest + 1, greatest + 2, 1 << 30, math.MaxInt32, 1 << 32, 1<<32 + 5, math.MaxInt} {
		if h, err := heap.New(max); h != nil || err != api.ErrArg {
			t.Errorf("New(%d) = %v, %v", max, h, err)
		}
	}
	for _, max := range []int{1, 2, 10, 65536, greatest - 1, greatest} {
		a := begin(t, max)
		a.uses(0)
		a.aCell(none)
		a.uses(1)
		if a.heap.Max() != max {
			t.Error(max, a.heap.Max())
		}
	}
}

// P14.1: two heaps are apart.
func TestHeapsApart(t *testing.T) {
	a, b := begin(t, 20), begin(t, 30)
	s := a.aStr("ab")
	b.told()
	b.aTable()
	b.aStr("ab")
	a.free(s)
	b.told()
	b.watch(true)
	a.aTable()
	b.dirty()
	a.dirty()
}

// P14.1: texts of all lengths at which their size is another one.
func TestStrSizes(t *testing.T) {
	for length, size := range map[int]int{0: 1, 1: 1, 15: 1, 16: 2, 17: 2, 31: 2, 32: 3, 65519: 4095, 65520: 4096, 65535: 4096} {
		a := begin(t, 5000)
		v := a.aStr(strings.Repeat("\xff", length))
		a.uses(size)
		if s, ok := a.heap.Text(v); len(s) != length || !ok {
			t.Error(length, len(s), ok)
		}
		again := a.aStr(strings.Repeat("\xff", length))
		a.uses(size)
		if v != again {
			t.Error(length, v, again)
		}
	}
}

// P14.1: a text that is too long is that ahead of all else.
func TestStrLong(t *testing.T) {
	for _, max := range []int{1, 4096, greatest} {
		a := begin(t, max)
		for _, length := range []int{65536, 65537, 1 << 20} {
			_, err := a.str(strings.Repeat("x", length))
			is(t, "too long", err, api.ErrLong)
		}
		a.uses(0)
		_, err := a.str(strings.Repeat("x", 65535))
		if want := api.ErrRoom; max == 1 {
			is(t, "65535", err, want)
		} else {
			is(t, "65535", err, api.OK)
		}
	}
}

// P14.1: bytes that differ in one of them, in length or in what is no character, are texts of their own.
func TestStrApart(t *testing.T) {
	a := begin(t, 100)
	for i, s := range []string{"", "\x00", "\x00\x00", "a", "A", "a\x00", "\x00a", "\xff", "\xfe", "ä", "a\u0308", "\xc3", "\xef\xbf\xbd"} {
		if v := a.aStr(s); v != (api.Value{Kind: api.KStr, N: int64(i + 1)}) {
			t.Errorf("%q: %v", s, v)
		}
	}
}

// P14.1: a text that is there needs no room; one whose bytes were freed does.
func TestStrThere(t *testing.T) {
	a := begin(t, 4)
	one, two := a.aStr(strings.Repeat("a", 16)), a.aStr(strings.Repeat("b", 20))
	_, err := a.str("")
	is(t, "no room", err, api.ErrRoom)
	if v := a.aStr(strings.Repeat("a", 16)); v != one {
		t.Error(v)
	}
	a.free(one)
	a.aCell(two)
	_, err = a.str(strings.Repeat("a", 16))
	is(t, "freed", err, api.ErrRoom)
	if v := a.aStr(strings.Repeat("b", 20)); v != two {
		t.Error(v)
	}
	if v := a.aStr("a"); v.N != 3 {
		t.Error(v)
	}
	is(t, "again", a.free(two), api.OK)
	if v := a.aStr(strings.Repeat("a", 16)); v.N != 2 {
		t.Error(v)
	}
}

// maker makes an object of a kind and size.
type maker struct {
	name string
	size int
	make func(a *asked) (api.Value, api.Errno)
}

// makers answers one of each kind; cells are those that a function has.
func makers(cells ...api.Value) []maker {
	text := func(s string) func(*asked) (api.Value, api.Errno) {
		return func(a *asked) (api.Value, api.Errno) { return a.str(s) }
	}
	return []maker{
		{"no bytes", 1, text("")},
		{"15 bytes", 1, text(strings.Repeat("y", 15))},
		{"16 bytes", 2, text(strings.Repeat("y", 16))},
		{"65535 bytes", 4096, text(strings.Repeat("y", 65535))},
		{"a table", 2, (*asked).table},
		{"a thread", 8, (*asked).thread},
		{"a cell", 1, func(a *asked) (api.Value, api.Errno) { return a.cell(num(1)) }},
		{"a function", 2, func(a *asked) (api.Value, api.Errno) { return a.fn(7) }},
		{"a function with cells", 2 + len(cells), func(a *asked) (api.Value, api.Errno) { return a.fn(0, cells...) }},
	}
}

// P14.1: each kind of object where there is just room, and where one is missing.
func TestJustRoom(t *testing.T) {
	for _, taken := range []int{0, 1, 2, 5} {
		cells := make([]api.Value, taken)
		for i := range cells {
			cells[i] = api.Value{Kind: api.KCell, N: int64(i + 1)}
		}
		for _, m := range makers(cells...) {
			for room := m.size - 1; room <= m.size+1; room++ {
				if taken+room > 0 {
					justRoom(t, m, taken, room)
				}
			}
		}
	}
}

func justRoom(t *testing.T, m maker, taken, room int) {
	t.Helper()
	a := begin(t, taken+room)
	for range taken {
		a.aCell(none)
	}
	v, err := m.make(a)
	if room < m.size {
		is(t, m.name, err, api.ErrRoom)
		a.uses(taken)
		return
	}
	is(t, m.name, err, api.OK)
	a.uses(taken + m.size)
	if v.N != int64(taken+1) || !a.heap.Has(v) {
		t.Error(m.name, v)
	}
	a.free(v)
	a.uses(taken)
}

// P14.1: no more than 65536 objects, of whatever kind, be there room or not; a text that is there is told all the same.
func TestManyObjects(t *testing.T) {
	h := made(t, greatest)
	s, _ := h.Str("there")
	x, _ := h.Table()
	for n := 3; n < mostObjects; n++ {
		if v, err := h.Cell(num(int64(n))); err != api.OK || v.N != int64(n) {
			t.Fatal(n, v, err)
		}
	}
	last, err := h.Func(5, nil)
	if err != api.OK || last.N != mostObjects || len(h.Objects()) != mostObjects || h.Serial(last) != 2 {
		t.Fatal(last, err)
	}
	used := h.Used()
	fullOf(t, h)
	if v, err := h.Str("there"); v != s || err != api.OK || h.Used() != used {
		t.Error(v, err, h.Used())
	}
	is(t, "Set needs no object", h.Set(x, s, last), api.OK)
	middle := api.Value{Kind: api.KCell, N: 777}
	is(t, "Free", h.Free(middle), api.OK)
	if v, err := h.Thread(); err != api.OK || v.N != 777 || h.Serial(v) != 3 || h.Has(middle) {
		t.Error(v, err)
	}
	fullOf(t, h)
	if list := h.Objects(); len(list) != mostObjects || list[776].Kind != api.KThread || h.Load(list[777]) != num(778) {
		t.Error(len(list))
	}
}

// fullOf asks a heap that has no room for one more of each kind.
func fullOf(t *testing.T, h *heap.Heap) {
	t.Helper()
	used := h.Used()
	for _, make := range []func() (api.Value, api.Errno){
		h.Table, h.Thread,
		func() (api.Value, api.Errno) { return h.Str("new") },
		func() (api.Value, api.Errno) { return h.Cell(none) },
		func() (api.Value, api.Errno) { return h.Func(0, nil) },
	} {
		if v, err := make(); v != none || err != api.ErrRoom || h.Used() != used {
			t.Error(v, err, h.Used())
		}
	}
	if _, ok := h.Known("new"); ok {
		t.Error("a text that had no room is known")
	}
}

// P14.1: a function's cells: none, as many as may be, one more, and one twice.
func TestFuncCells(t *testing.T) {
	a := begin(t, 400)
	var cells []api.Value
	for n := range 61 {
		cells = append(cells, a.aCell(num(int64(n))))
	}
	a.uses(61)
	for _, count := range []int{0, 1, 2, 59, 60} {
		used := a.heap.Used()
		f := a.aFunc(count, cells[:count]...)
		a.uses(used + 2 + count)
		a.leads(f, cells[:count]...)
	}
	used := a.heap.Used()
	_, err := a.fn(0, cells...)
	is(t, "61 cells", err, api.ErrValue)
	twice := []api.Value{cells[3], cells[1], cells[3], cells[3]}
	a.leads(a.aFunc(1, twice...), twice...)
	a.uses(used + 6)
}

// P14.1: numbers of functions, and cells that are none.
func TestFuncWrong(t *testing.T) {
	a := begin(t, 40)
	c, gone := a.aCell(none), a.aCell(none)
	s, x := a.aStr("s"), a.aTable()
	a.free(gone)
	used := a.heap.Used()
	for _, proto := range []int{-1, -2, math.MinInt32, math.MinInt} {
		_, err := a.fn(proto, c)
		is(t, "proto below 0", err, api.ErrValue)
	}
	wrong := []api.Value{gone, s, x, none, num(1), {Kind: api.KCell, N: s.N}, {Kind: api.KCell, N: x.N}, {Kind: api.KInt, N: c.N}, {Kind: api.KStr, N: c.N}}
	for _, n := range far() {
		wrong = append(wrong, api.Value{Kind: api.KCell, N: n})
	}
	for _, v := range append(wrong, never()...) {
		for _, cells := range [][]api.Value{{v}, {c, v}, {v, c}} {
			_, err := a.fn(0, cells...)
			is(t, "no cell", err, api.ErrValue)
		}
	}
	a.uses(used)
	for _, proto := range []int{0, 1, 199, 200, math.MaxInt32, math.MaxInt} {
		if f := a.aFunc(proto, c); a.heap.Serial(f) == 0 {
			t.Error(proto)
		}
	}
}

// P14.1: what a cell may have, and what not.
func TestCellValues(t *testing.T) {
	a := begin(t, 3000)
	may, not := someValues(a)
	for _, v := range may {
		if c := a.aCell(v); a.heap.Load(c) != v {
			t.Error(v, a.heap.Load(c))
		}
	}
	used := a.heap.Used()
	for _, v := range not {
		_, err := a.cell(v)
		is(t, "Cell", err, api.ErrValue)
	}
	a.uses(used)
}

// someValues answers values that may be kept in a heap, among them those of an object of each kind, and some that may not.
func someValues(a *asked) (may, not []api.Value) {
	a.t.Helper()
	c := a.aCell(none)
	there := []api.Value{a.aStr("some"), a.aTable(), a.aFunc(1, c), a.aThread()}
	gone := []api.Value{a.aStr("gone"), a.aTable(), a.aFunc(2), a.aThread(), a.aCell(none)}
	for _, v := range gone {
		a.free(v)
	}
	may = append(there, none, api.Value{Kind: api.KFalse}, api.Value{Kind: api.KTrue})
	for _, n := range append(far(), 1) {
		may = append(may, num(n), api.Value{Kind: api.KLib, N: n})
		not = append(not, api.Value{Kind: noKinds()[0], N: n}, api.Value{Kind: 255, N: n})
		if n != 0 {
			not = append(not, api.Value{Kind: api.KNil, N: n}, api.Value{Kind: api.KFalse, N: n}, api.Value{Kind: api.KTrue, N: n})
		}
	}
	not = append(append(not, gone...), c)
	for _, kind := range kinds() {
		for _, n := range far() {
			not = append(not, api.Value{Kind: kind, N: n})
		}
		for _, v := range append(there, c) {
			if v.Kind != kind {
				not = append(not, api.Value{Kind: kind, N: v.N})
			}
		}
	}
	return may, not
}

// The order of errors: what may not be is told ahead of what has no room.
func TestMakeOrder(t *testing.T) {
	a := begin(t, 1)
	c := a.aCell(none)
	_, err := a.cell(api.Value{Kind: api.KTrue, N: 1})
	is(t, "Cell", err, api.ErrValue)
	_, err = a.cell(c)
	is(t, "Cell of a cell", err, api.ErrValue)
	_, err = a.fn(-1)
	is(t, "Func", err, api.ErrValue)
	_, err = a.fn(0, none)
	is(t, "Func", err, api.ErrValue)
	_, err = a.str(strings.Repeat("x", 65536))
	is(t, "Str", err, api.ErrLong)
	_, err = a.cell(none)
	is(t, "room", err, api.ErrRoom)
	_, err = a.fn(0, c)
	is(t, "room", err, api.ErrRoom)
}

// P14.1: what is made is new: no table or thread has what another one has.
func TestNewOnes(t *testing.T) {
	a := begin(t, 100)
	x, y := a.aTable(), a.aTable()
	a.set(x, num(1), y)
	a.leads(y)
	b, c := a.aThread(), a.aThread()
	a.state(b, func(s *api.Thread) { s.Vals = []api.Value{x} })
	a.leads(c)
	d, e := a.aCell(num(1)), a.aCell(num(1))
	a.store(d, x)
	a.leads(e)
	if f, g := a.aFunc(1, d), a.aFunc(1, d); f == g {
		t.Error(f, g)
	}
}
