package pool_test

import (
	"math"
	"slices"
	"testing"

	"twinstep/api"
	"twinstep/pool"
)

// copy_test.go: P12.1: copies; pools that no call made; lists that were answered.

// P12.1: a copy and what it was made of are changed apart from each other.
func TestCopy(t *testing.T) {
	a := filled(t, 5)
	a.give(4, api.OK)
	a.give(2, api.OK)
	b := a.copied()
	b.has(1, -1, 1, -1, 1)
	a.take(10, 2, api.OK)
	a.resize(1, 20, api.OK)
	a.give(5, api.OK)
	b.told()
	b.has(1, -1, 1, -1, 1)
	b.take(30, 2, api.OK)
	b.take(40, 4, api.OK)
	b.take(50, 6, api.OK)
	b.give(1, api.OK)
	b.resize(3, 0, api.OK)
	a.told()
	a.has(20, 10, 1)
	b.has(-1, 30, 0, 40, 1, 50)
	a.take(2, 4, api.OK)
	a.take(3, 5, api.OK)
	a.take(4, 6, api.OK)
	b.told()
	b.take(7, 1, api.OK)
	b.take(8, 7, api.OK)
	a.told()
	a.has(20, 10, 1, 2, 3, 4)
	b.has(7, 30, 0, 40, 1, 50, 8)
}

// P12.1: what is put behind the end of one's lists is not in the other's.
func TestCopyEnds(t *testing.T) {
	for count := range 20 {
		a := filled(t, count)
		b := a.copied()
		c := a.copied()
		a.take(5, count+1, api.OK)
		b.take(6, count+1, api.OK)
		c.take(7, count+1, api.OK)
		a.told()
		b.told()
		c.told()
		for id := range count {
			a.give(count-id, api.OK)
		}
		d := a.copied()
		e := a.copied()
		d.give(count+1, api.OK)
		a.resize(count+1, 8, api.OK)
		a.told()
		d.told()
		e.give(count+1, api.OK)
		for id := range count + 3 {
			d.take(1, id+1, api.OK)
		}
		a.told()
		e.told()
	}
}

// P12.1: the copy has the bound, reached or not; of a pool without objects, too.
func TestCopyBound(t *testing.T) {
	for _, most := range []int{0, 1, 10, greatest} {
		a := begin(t, most)
		b := a.copied()
		b.take(most+1, 0, api.ErrFull)
		b.take(most, 1, api.OK)
		b.take(1, 0, api.ErrFull)
		a.told()
		c := b.copied()
		c.take(1, 0, api.ErrFull)
		c.resize(1, most+1, api.ErrFull)
		c.give(1, api.OK)
		c.take(most, 1, api.OK)
		b.told()
		a.has()
	}
	p := crowd(t)
	noMore(t, p.Copy())
}

// P12.1: a copy of a copy.
func TestCopies(t *testing.T) {
	a := begin(t, 100)
	all := []*asked{a}
	for size := range 8 {
		a.took(size)
		a.took(size)
		a.gave(size + 1)
		a = a.copied()
		all = append(all, a)
	}
	for at, one := range all {
		one.took(at)
		one.gave(at)
		for _, other := range all {
			other.told()
		}
	}
}

// P12.1, R5: pools that neither New nor Copy answered.
func TestNotMade(t *testing.T) {
	p, _ := pool.New(100)
	p.Take(1)
	p.Take(2)
	p.Give(1)
	assigned := *p
	var over pool.Pool
	over = assigned
	var none *pool.Pool
	for what, p := range map[string]*pool.Pool{"nil": none, "empty": {}, "new": new(pool.Pool), "assigned": &assigned, "assigned again": &over} {
		notMade(t, what, p)
		notMade(t, what, p)
	}
	is(t, "Used", p.Used(), 2)
	is(t, "Count", p.Count(), 1)
	if id, err := p.Take(3); id != 1 || err != api.OK {
		t.Error(id, err)
	}
	*p = pool.Pool{}
	notMade(t, "emptied", p)
}

// notMade asks a pool that no call made.
func notMade(t *testing.T, what string, p *pool.Pool) {
	t.Helper()
	for _, n := range append(never(), 1, 2, 3, 100, 101) {
		id, err := p.Take(n)
		is(t, what+": Take", err, api.ErrNil)
		is(t, what+": Take", id, 0)
		is(t, what+": Give", p.Give(n), api.ErrNil)
		for _, size := range []int{math.MinInt, -1, 0, 1, 2, 101, math.MaxInt} {
			is(t, what+": Resize", p.Resize(n, size), api.ErrNil)
		}
		size, ok := p.Size(n)
		is(t, what+": Size", size, 0)
		is(t, what+": Size", ok, false)
	}
	is(t, what+": Used", p.Used(), 0)
	is(t, what+": Count", p.Count(), 0)
	is(t, what+": Ids", len(p.Ids()), 0)
	if q := p.Copy(); q != nil {
		t.Errorf("%s: Copy = %v", what, q)
	}
}

// R3: a list that Ids answered is whoever asked's, its spare room too.
func TestIdsApart(t *testing.T) {
	a := filled(t, 6)
	a.give(3, api.OK)
	first, second := a.pool.Ids(), a.pool.Ids()
	spoil := func(list []int) {
		list = list[:cap(list)]
		for at := range list {
			list[at] = -7
		}
	}
	spoil(first)
	if !slices.Equal(second, []int{1, 2, 4, 5, 6}) {
		t.Error(second)
	}
	a.told()
	b := a.copied()
	spoil(b.pool.Ids())
	spoil(append(a.pool.Ids(), 1, 2, 3))
	a.told()
	b.told()
	kept := a.pool.Ids()
	a.give(1, api.OK)
	a.take(1, 1, api.OK)
	a.take(1, 3, api.OK)
	a.take(1, 7, api.OK)
	a.give(2, api.OK)
	if !slices.Equal(kept, []int{1, 2, 4, 5, 6}) {
		t.Error(kept)
	}
}
