package pool_test

import (
	"fmt"
	"math"
	"slices"
	"testing"

	"twinstep/api"
	"twinstep/pool"
)

// told_test.go: the chapter's words once more, of a plain list of numbers with sizes.

// greatest is the greatest bound.
const greatest = 1 << 30

type object struct{ id, size int }

// plain is what a pool is to answer.
type plain struct {
	most    int
	objects []object
}

func (l *plain) at(id int) int {
	return slices.IndexFunc(l.objects, func(o object) bool { return o.id == id })
}

// usedBut answers the sizes of all but one together.
func (l *plain) usedBut(id int) int {
	used := 0
	for _, o := range l.objects {
		if o.id != id {
			used += o.size
		}
	}
	return used
}

func (l *plain) ids() []int {
	var ids []int
	for _, o := range l.objects {
		ids = append(ids, o.id)
	}
	slices.Sort(ids)
	return ids
}

// least answers the least number that no object has.
func (l *plain) least() int {
	id := 1
	for l.at(id) >= 0 {
		id++
	}
	return id
}

// above tells whether so much more is above the bound; both together may be more than an int can be.
func (l *plain) above(used, size int) bool { return uint64(used)+uint64(size) > uint64(l.most) }

func (l *plain) take(size int) (int, api.Errno) {
	switch {
	case size < 0:
		return 0, api.ErrArg
	case l.above(l.usedBut(0), size), len(l.objects) == 65536:
		return 0, api.ErrFull
	}
	id := l.least()
	l.objects = append(l.objects, object{id, size})
	return id, api.OK
}

func (l *plain) give(id int) api.Errno {
	at := l.at(id)
	if at < 0 {
		return api.ErrArg
	}
	l.objects = slices.Delete(l.objects, at, at+1)
	return api.OK
}

func (l *plain) resize(id, size int) api.Errno {
	at := l.at(id)
	switch {
	case at < 0 || size < 0:
		return api.ErrArg
	case l.above(l.usedBut(id), size):
		return api.ErrFull
	}
	l.objects[at].size = size
	return api.OK
}

// asked is a pool, the list that tells what it is to answer, and what was called last.
type asked struct {
	t     *testing.T
	pool  *pool.Pool
	plain plain
	last  string
}

// begin answers a new pool that is asked.
func begin(t *testing.T, most int) *asked {
	t.Helper()
	p, err := pool.New(most)
	if p == nil || err != api.OK {
		t.Fatalf("New(%d) = %v, %v", most, p, err)
	}
	a := &asked{t: t, pool: p, plain: plain{most: most}, last: "New"}
	a.told()
	return a
}

// took takes, and asks for what the list tells.
func (a *asked) took(size int) int {
	a.t.Helper()
	want, wantErr := a.plain.take(size)
	id, err := a.pool.Take(size)
	a.last = fmt.Sprintf("Take(%d)", size)
	if id != want || err != wantErr {
		a.t.Fatalf("%s = %d, %v, not %d, %v", a.last, id, err, want, wantErr)
	}
	a.told()
	return id
}

func (a *asked) gave(id int) api.Errno {
	a.t.Helper()
	want, err := a.plain.give(id), a.pool.Give(id)
	a.last = fmt.Sprintf("Give(%d)", id)
	a.same(err, want)
	return err
}

func (a *asked) resized(id, size int) api.Errno {
	a.t.Helper()
	want, err := a.plain.resize(id, size), a.pool.Resize(id, size)
	a.last = fmt.Sprintf("Resize(%d, %d)", id, size)
	a.same(err, want)
	return err
}

func (a *asked) same(err, want api.Errno) {
	a.t.Helper()
	if err != want {
		a.t.Fatalf("%s = %v, not %v", a.last, err, want)
	}
	a.told()
}

// copied answers a copy that is asked for what the pool is asked.
func (a *asked) copied() *asked {
	a.t.Helper()
	q := a.pool.Copy()
	if q == nil || q == a.pool {
		a.t.Fatalf("Copy = %v of %v", q, a.pool)
	}
	c := &asked{t: a.t, pool: q, plain: plain{most: a.plain.most, objects: slices.Clone(a.plain.objects)}, last: a.last + ", Copy"}
	c.told()
	a.told()
	return c
}

// told asks for all that a pool tells, twice.
func (a *asked) told() {
	a.t.Helper()
	for range 2 {
		a.totals()
		a.sizes()
	}
}

// totals asks for Used, Count and Ids.
func (a *asked) totals() {
	a.t.Helper()
	used, count, ids := a.pool.Used(), a.pool.Count(), a.pool.Ids()
	if used != a.plain.usedBut(0) || count != len(a.plain.objects) || !slices.Equal(ids, a.plain.ids()) {
		a.t.Fatalf("behind %s: Used %d, Count %d, Ids %v; not %v", a.last, used, count, ids, a.plain.objects)
	}
	if used > a.plain.most {
		a.t.Fatalf("behind %s: Used %d is above %d", a.last, used, a.plain.most)
	}
}

// sizes asks for Size of each number up to one that was never handed out, and of some beyond.
func (a *asked) sizes() {
	a.t.Helper()
	end := 3
	for _, o := range a.plain.objects {
		end = max(end, o.id+3)
	}
	sizes := make([]int, end)
	there := make([]bool, end)
	for _, o := range a.plain.objects {
		sizes[o.id], there[o.id] = o.size, true
	}
	for id := range end {
		if size, ok := a.pool.Size(id); size != sizes[id] || ok != there[id] {
			a.t.Fatalf("behind %s: Size(%d) = %d, %v, not %d, %v", a.last, id, size, ok, sizes[id], there[id])
		}
	}
	for _, id := range never() {
		if size, ok := a.pool.Size(id); size != 0 || ok {
			a.t.Fatalf("behind %s: Size(%d) = %d, %v", a.last, id, size, ok)
		}
	}
}

// never answers numbers that no object ever has.
func never() []int {
	return []int{0, -1, -2, -65536, math.MinInt32, math.MinInt, math.MinInt + 1, 65537, 65538, greatest, greatest + 1, math.MaxInt32, 1 << 32, 1<<32 + 1, math.MaxInt - 1, math.MaxInt}
}

// below answers sizes that may not be.
func below() []int { return []int{-1, -2, math.MinInt32, math.MinInt + 1, math.MinInt} }
