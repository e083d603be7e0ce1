package heap_test

import (
	"testing"

	"twinstep/api"
)

// others_test.go: P14.3 and P14.4 by hand.

// oneOfEach answers an object of each kind.
func oneOfEach(a *asked) []api.Value {
	a.t.Helper()
	c := a.aCell(num(5))
	return []api.Value{a.aStr("text"), a.aTable(), a.aFunc(3, c, c), a.aThread(), c}
}

// P14.3: what one kind is asked for, no other kind tells, nor one that was freed.
func TestKindsApart(t *testing.T) {
	a := begin(t, 100)
	for _, v := range append(oneOfEach(a), never()...) {
		a.tells(v, v.Kind, a.heap.Has(v))
	}
	for _, v := range oneOfEach(a) {
		is(t, "Free", a.free(v), api.OK)
		a.tells(v, v.Kind, false)
	}
}

// tells asks for all that but one kind tells.
func (a *asked) tells(v api.Value, kind api.Kind, there bool) {
	a.t.Helper()
	s, isText := a.heap.Text(v)
	p, isFunc := a.heap.Proto(v)
	if isText != (there && kind == api.KStr) || isText != (s == "text") || isFunc != (there && kind == api.KFunc) || isFunc != (p == 3) {
		a.t.Error(v, s, isText, p, isFunc)
	}
	if (len(a.heap.Cells(v)) == 2) != isFunc || (len(a.heap.Cells(v)) == 0) == isFunc {
		a.t.Error(v, a.heap.Cells(v))
	}
	if load := a.heap.Load(v); (load == num(5)) != (there && kind == api.KCell) || load != num(5) && load != none {
		a.t.Error(v, load)
	}
	if s := a.heap.State(v); (s != nil) != (there && kind == api.KThread) {
		a.t.Error(v, s)
	}
}

// P14.3: Known makes nothing, and knows texts that are there alone.
func TestKnown(t *testing.T) {
	a := begin(t, 10)
	for _, s := range []string{"", "a", "ab"} {
		if v, ok := a.heap.Known(s); ok || v != none {
			t.Error(v, ok)
		}
	}
	a.uses(0)
	empty, ab := a.aStr(""), a.aStr("ab")
	if v, ok := a.heap.Known(""); !ok || v != empty {
		t.Error(v, ok)
	}
	if v, ok := a.heap.Known("ab"); !ok || v != ab {
		t.Error(v, ok)
	}
	if v, ok := a.heap.Known(string(make([]byte, 70000))); ok || v != none {
		t.Error(v, ok)
	}
	a.free(empty)
	if v, ok := a.heap.Known(""); ok || v != none {
		t.Error(v, ok)
	}
	a.free(ab)
	a.aTable()
	if again := a.aStr("ab"); again.N != 2 {
		t.Error(again)
	}
}

// P14.3: a text that was freed and whose bytes came again under another number is that alone.
func TestTextAgain(t *testing.T) {
	a := begin(t, 20)
	one, two := a.aStr("one"), a.aStr("two")
	a.free(one)
	a.free(two)
	first := a.aStr("two")
	second := a.aStr("one")
	if first != one || second != two {
		t.Error(first, second)
	}
	a.free(first)
	if v := a.aStr("one"); v != second {
		t.Error(v)
	}
	if v := a.aStr("two"); v != first {
		t.Error(v)
	}
}

// P14.3: what Store puts in, Load tells; what it refuses has changed nothing.
func TestStore(t *testing.T) {
	a := begin(t, 200)
	may, not := someValues(a)
	c, d := a.aCell(num(1)), a.aCell(num(2))
	used := a.heap.Used()
	for _, v := range may {
		is(t, "Store", a.store(c, v), api.OK)
		if a.heap.Load(c) != v || a.heap.Load(d) != num(2) {
			t.Error(v, a.heap.Load(c), a.heap.Load(d))
		}
		for _, wrong := range not {
			if err := a.heap.Store(c, wrong); err != api.ErrValue {
				t.Error(wrong, err)
			}
		}
		if a.heap.Load(c) != v {
			t.Error(v, a.heap.Load(c))
		}
	}
	a.uses(used)
	for _, v := range append(never(), a.aStr("s"), a.aTable(), a.aThread(), a.aFunc(0), num(c.N)) {
		is(t, "no cell", a.store(v, num(1)), api.ErrObject)
		is(t, "no cell, no value", a.store(v, api.Value{Kind: api.KTrue, N: 1}), api.ErrObject)
	}
	a.free(c)
	is(t, "a freed cell", a.store(c, num(1)), api.ErrObject)
	is(t, "a freed value", a.store(d, c), api.ErrValue)
}

// P14.3: a cell leads nowhere when what it has is freed, and tells it still.
func TestCellFreed(t *testing.T) {
	a := begin(t, 20)
	s := a.aStr("s")
	c := a.aCell(s)
	f := a.aFunc(0, c)
	a.free(s)
	a.free(c)
	if cells := a.heap.Cells(f); len(cells) != 1 || cells[0] != c {
		t.Error(cells)
	}
	a.aTable()
	if v := a.aCell(num(8)); v != c || a.heap.Load(a.heap.Cells(f)[0]) != num(8) {
		t.Error(v)
	}
}

// P14.3: a thread's state is its own, and stays what it was made to be.
func TestState(t *testing.T) {
	a := begin(t, 40)
	b, c := a.aThread(), a.aThread()
	if a.heap.State(b) == a.heap.State(c) {
		t.Error("one state of two threads")
	}
	a.state(b, func(s *api.Thread) {
		*s = api.Thread{Status: api.Fresh, Vals: []api.Value{num(1)}, By: c.N, Levels: make([]api.Level, 2)}
	})
	a.state(b, func(s *api.Thread) { s.Levels = append(s.Levels, api.Level{Kind: api.LCatch}) })
	a.state(c, func(s *api.Thread) { s.Status = api.Dead })
	elder := a.heap.State(b)
	a.free(b)
	elder.Vals = nil
	if again := a.aThread(); again != b || a.heap.State(b) == elder {
		t.Error(again)
	}
	elder.Status = api.Runs
	a.told()
}

// P14.4: serials count tables, functions and threads, as they are made, whatever is freed or refused.
func TestSerials(t *testing.T) {
	a := begin(t, 30)
	has := func(v api.Value, want int64) {
		t.Helper()
		if n := a.heap.Serial(v); n != want {
			t.Errorf("Serial(%v) = %d, not %d", v, n, want)
		}
	}
	s, x, c := a.aStr("s"), a.aTable(), a.aCell(none)
	f, b := a.aFunc(0, c), a.aThread()
	has(s, 0)
	has(c, 0)
	has(x, 1)
	has(f, 2)
	has(b, 3)
	a.free(x)
	has(x, 0)
	y := a.aTable()
	if y != x {
		t.Error(y)
	}
	has(y, 4)
	a.aThread()
	_, err := a.thread()
	is(t, "no room", err, api.ErrRoom)
	_, err = a.fn(-1)
	is(t, "no function", err, api.ErrValue)
	a.free(b)
	a.free(f)
	has(a.aFunc(1), 6)
	has(b, 0)
	has(y, 4)
	for _, v := range never() {
		has(v, 0)
	}
}

// P14.4: what is freed is gone, with its size and number; what is not there is not freed.
func TestFree(t *testing.T) {
	a := begin(t, 60)
	list := oneOfEach(a)
	used := a.heap.Used()
	for _, v := range append(never(), num(list[0].N)) {
		is(t, "Free of none", a.free(v), api.ErrObject)
	}
	for _, v := range list {
		for _, kind := range append(append(kinds(), noKinds()...), api.KNil, api.KInt, api.KLib) {
			if kind != v.Kind {
				is(t, "Free of another kind", a.free(api.Value{Kind: kind, N: v.N}), api.ErrObject)
			}
		}
	}
	a.uses(used)
	for i, size := range []int{1, 2, 4, 8, 1} {
		is(t, "Free", a.free(list[i]), api.OK)
		used -= size
		a.uses(used)
		is(t, "Free twice", a.free(list[i]), api.ErrObject)
	}
	x := a.aTable()
	for n := int64(1); n <= 5; n++ {
		a.set(x, num(n), num(n))
	}
	a.uses(12)
	a.free(x)
	a.uses(0)
}

// P14.4: a number that is freed comes again, the least one first, for whatever kind; the elder value is not the new object's.
func TestNumbersAgain(t *testing.T) {
	for from, elder := range kinds() {
		for to := range kinds() {
			a := begin(t, 100)
			list := oneOfEach(a)
			a.free(list[from])
			a.free(list[(from+1)%5])
			low := min(list[from].N, list[(from+1)%5].N)
			v, err := makers()[[]int{0, 4, 7, 5, 6}[to]].make(a)
			if err != api.OK || v.N != low || v.Kind != kinds()[to] {
				t.Fatal(from, to, v, err)
			}
			if there := a.heap.Has(api.Value{Kind: elder, N: low}); there != (kinds()[to] == elder) {
				t.Error(from, to, there)
			}
		}
	}
}

// P14.4: all objects by rising numbers, in whichever order they were made.
func TestObjects(t *testing.T) {
	a := begin(t, 100)
	list := oneOfEach(a)
	a.free(list[4])
	a.free(list[1])
	a.aThread()
	a.aStr("x")
	got := a.heap.Objects()
	want := []api.Value{{Kind: api.KThread, N: 1}, {Kind: api.KStr, N: 2}, {Kind: api.KStr, N: 3}, {Kind: api.KFunc, N: 4}, {Kind: api.KThread, N: 5}}
	sameList(a, "Objects", none, got, want)
	for _, v := range got {
		a.free(v)
	}
	if len(a.heap.Objects()) != 0 {
		t.Error(a.heap.Objects())
	}
}
