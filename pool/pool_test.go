package pool_test

import (
	"math"
	"slices"
	"testing"

	"twinstep/api"
	"twinstep/pool"
)

// pool_test.go: P12.1 and P12.2 by hand.

// is asks that a call answers what stands here.
func is[T comparable](t *testing.T, what string, got, want T) {
	t.Helper()
	if got != want {
		t.Errorf("%s: %v, not %v", what, got, want)
	}
}

// take asks for a number, or for an error beside 0.
func (a *asked) take(size, want int, err api.Errno) {
	a.t.Helper()
	id := a.took(size)
	is(a.t, a.last, id, want)
	is(a.t, a.last, err == api.OK, want != 0)
	if err != api.OK {
		again, got := a.pool.Take(size)
		is(a.t, a.last, got, err)
		is(a.t, a.last, again, 0)
	}
}

func (a *asked) give(id int, err api.Errno) {
	a.t.Helper()
	is(a.t, "give", a.gave(id), err)
}

func (a *asked) resize(id, size int, err api.Errno) {
	a.t.Helper()
	is(a.t, "resize", a.resized(id, size), err)
}

// has asks for all objects' sizes, from number 1 on; -1: no object.
func (a *asked) has(sizes ...int) {
	a.t.Helper()
	var ids []int
	used := 0
	for at, size := range sizes {
		got, ok := a.pool.Size(at + 1)
		is(a.t, "Size's second", ok, size >= 0)
		is(a.t, "Size", got, max(size, 0))
		if size >= 0 {
			ids = append(ids, at+1)
			used += size
		}
	}
	is(a.t, "Used", a.pool.Used(), used)
	is(a.t, "Count", a.pool.Count(), len(ids))
	if got := a.pool.Ids(); !slices.Equal(got, ids) {
		a.t.Errorf("Ids = %v, not %v", got, ids)
	}
}

// Chapter 12, examples.
func TestExamples(t *testing.T) {
	a := begin(t, 10)
	a.take(3, 1, api.OK)
	a.take(4, 2, api.OK)
	a.take(4, 0, api.ErrFull)
	a.take(3, 3, api.OK)
	a.has(3, 4, 3)
	a.give(1, api.OK)
	a.give(3, api.OK)
	a.has(-1, 4, -1)
	a.take(0, 1, api.OK)
	a.take(0, 3, api.OK)
	a.take(0, 4, api.OK)
	a.has(0, 4, 0, 0)
	a.resize(2, 11, api.ErrFull)
	a.has(0, 4, 0, 0)
	a.resize(2, 10, api.OK)
	a.has(0, 10, 0, 0)
	a.give(9, api.ErrArg)
	a.take(-1, 0, api.ErrArg)
	a.has(0, 10, 0, 0)
}

// P12.1: the bounds that may be, and those that may not.
func TestNew(t *testing.T) {
	for _, most := range []int{-1, -2, math.MinInt32, math.MinInt, greatest + 1, math.MaxInt32, 1 << 31, 1 << 32, 1<<32 + 5, math.MaxInt - 1, math.MaxInt} {
		p, err := pool.New(most)
		if p != nil || err != api.ErrArg {
			t.Errorf("New(%d) = %v, %v", most, p, err)
		}
	}
	for _, most := range []int{0, 1, 2, 10, 65535, 65536, 65537, 1 << 24, greatest - 1, greatest} {
		a := begin(t, most)
		a.has()
		a.take(most+1, 0, api.ErrFull)
		a.take(math.MaxInt, 0, api.ErrFull)
		a.take(most, 1, api.OK)
		a.take(1, 0, api.ErrFull)
		a.take(0, 2, api.OK)
		a.has(most, 0)
	}
}

// P12.1: two pools are apart.
func TestApart(t *testing.T) {
	a, b := begin(t, 10), begin(t, 20)
	a.take(4, 1, api.OK)
	b.take(11, 1, api.OK)
	b.take(0, 2, api.OK)
	a.has(4)
	b.has(11, 0)
	a.give(1, api.OK)
	a.has()
	b.has(11, 0)
	if a.pool == b.pool {
		t.Error("New answers one pool twice")
	}
}

// P12.2: sizes at the edges, of pools that have little and much.
func TestTake(t *testing.T) {
	for _, most := range []int{0, 1, 2, 3, 10, 65536, greatest - 1, greatest} {
		for _, used := range []int{0, 1, most / 2, most - 1, most} {
			if used < 0 || used > most {
				continue
			}
			left := most - used
			full := []int{left + 1, left + 2, greatest + 1, math.MaxInt32, 1 << 32, math.MaxInt - greatest, math.MaxInt - used, math.MaxInt - 1, math.MaxInt}
			if left < greatest {
				full = append(full, greatest)
			}
			a := begin(t, most)
			a.take(used, 1, api.OK)
			for _, size := range full {
				a.take(size, 0, api.ErrFull)
			}
			for _, size := range below() {
				a.take(size, 0, api.ErrArg)
			}
			a.take(0, 2, api.OK)
			a.has(used, 0)
			a.take(left, 3, api.OK)
			a.has(used, 0, left)
			a.take(1, 0, api.ErrFull)
			a.take(0, 4, api.OK)
			a.has(used, 0, left, 0)
		}
	}
}

// P12.2: a size below 0 is refused ahead of what would be full.
func TestTakeOrder(t *testing.T) {
	a := begin(t, 5)
	a.take(5, 1, api.OK)
	for _, size := range below() {
		a.take(size, 0, api.ErrArg)
	}
	a.has(5)
}

// P12.2: what was too much fits, when there is room again.
func TestTakeAgain(t *testing.T) {
	a := begin(t, 10)
	a.take(6, 1, api.OK)
	a.take(5, 0, api.ErrFull)
	a.resize(1, 5, api.OK)
	a.take(5, 2, api.OK)
	a.take(1, 0, api.ErrFull)
	a.give(1, api.OK)
	a.take(6, 0, api.ErrFull)
	a.take(5, 1, api.OK)
	a.has(5, 5)
}

// P12.2: numbers that have no object, or have none any more.
func TestGive(t *testing.T) {
	a := begin(t, 100)
	a.give(1, api.ErrArg)
	for size := range 5 {
		a.take(size+1, size+1, api.OK)
	}
	for _, id := range append(never(), 6, 7) {
		a.give(id, api.ErrArg)
	}
	a.has(1, 2, 3, 4, 5)
	a.give(1, api.OK)
	a.give(1, api.ErrArg)
	a.has(-1, 2, 3, 4, 5)
	a.give(5, api.OK)
	a.give(5, api.ErrArg)
	a.has(-1, 2, 3, 4)
	a.give(3, api.OK)
	a.give(3, api.ErrArg)
	a.give(1, api.ErrArg)
	a.has(-1, 2, -1, 4)
	a.give(4, api.OK)
	a.has(-1, 2)
	a.give(2, api.OK)
	a.has()
	for id := range 8 {
		a.give(id, api.ErrArg)
	}
	a.take(100, 1, api.OK)
	a.has(100)
}

// P12.2: an object of size 0 is one, too.
func TestNought(t *testing.T) {
	a := begin(t, 0)
	for id := 1; id <= 4; id++ {
		a.take(0, id, api.OK)
	}
	a.take(1, 0, api.ErrFull)
	a.resize(2, 0, api.OK)
	a.resize(2, 1, api.ErrFull)
	a.give(2, api.OK)
	a.give(2, api.ErrArg)
	a.resize(2, 0, api.ErrArg)
	a.has(0, -1, 0, 0)
	a.take(0, 2, api.OK)
	a.has(0, 0, 0, 0)
}

// P12.2: another size: the same one, none, what is left, and more.
func TestResize(t *testing.T) {
	for _, most := range []int{10, 65536, greatest} {
		a := begin(t, most)
		a.take(3, 1, api.OK)
		a.take(4, 2, api.OK)
		a.resize(1, 3, api.OK)
		a.has(3, 4)
		a.resize(1, most-4, api.OK)
		a.has(most-4, 4)
		a.resize(1, most-4, api.OK)
		a.take(1, 0, api.ErrFull)
		for _, size := range []int{most - 3, most, most + 1, greatest + 1, math.MaxInt32, 1 << 32, math.MaxInt - most, math.MaxInt - 1, math.MaxInt} {
			a.resize(1, size, api.ErrFull)
			a.resize(2, size, api.ErrFull)
		}
		a.resize(2, 5, api.ErrFull)
		for _, size := range below() {
			a.resize(1, size, api.ErrArg)
			a.resize(2, size, api.ErrArg)
		}
		a.has(most-4, 4)
		a.resize(1, 0, api.OK)
		a.has(0, 4)
		a.resize(1, 0, api.OK)
		a.resize(1, most-3, api.ErrFull)
		a.resize(2, most+1, api.ErrFull)
		a.resize(2, most, api.OK)
		a.has(0, most)
		a.resize(1, 1, api.ErrFull)
		a.resize(2, most-1, api.OK)
		a.resize(1, 1, api.OK)
		a.has(1, most-1)
		a.resize(2, 0, api.OK)
		a.resize(1, most, api.OK)
		a.has(most, 0)
	}
}

// P12.2: Resize of numbers without an object: ErrArg, whatever size is asked for.
func TestResizeNone(t *testing.T) {
	a := begin(t, 10)
	none := append(never(), 1, 2, 3)
	refused := func() {
		t.Helper()
		for _, id := range none {
			for _, size := range append(below(), 0, 1, 10, 11, greatest, greatest+1, math.MaxInt) {
				a.resize(id, size, api.ErrArg)
			}
		}
	}
	refused()
	a.take(2, 1, api.OK)
	a.take(3, 2, api.OK)
	a.take(4, 3, api.OK)
	none = append(never(), 4, 5)
	refused()
	a.has(2, 3, 4)
	a.give(2, api.OK)
	none = append(never(), 2, 4, 5)
	refused()
	a.has(2, -1, 4)
	a.give(3, api.OK)
	none = append(never(), 2, 3, 4, 5)
	refused()
	a.has(2)
}

// P12.2: a number that was given back has the new object's size, not its old one.
func TestNewSize(t *testing.T) {
	a := begin(t, 20)
	a.take(7, 1, api.OK)
	a.take(8, 2, api.OK)
	a.give(1, api.OK)
	a.take(12, 1, api.OK)
	a.has(12, 8)
	a.give(1, api.OK)
	a.take(0, 1, api.OK)
	a.has(0, 8)
	a.resize(2, 20, api.OK)
	a.give(2, api.OK)
	a.take(20, 2, api.OK)
	a.has(0, 20)
}
