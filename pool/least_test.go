package pool_test

import (
	"math"
	"math/rand"
	"slices"
	"testing"

	"twinstep/api"
	"twinstep/pool"
)

// least_test.go: P12.2: the number is the least that no object has, whatever was given back ahead of it.

// filled answers a pool of so many objects of size 1, under a bound that leaves room.
func filled(t *testing.T, count int) *asked {
	t.Helper()
	a := begin(t, greatest)
	for id := 1; id <= count; id++ {
		a.take(1, id, api.OK)
	}
	return a
}

// P12.2: the greatest number is given back behind others, and ahead of others.
func TestGreatest(t *testing.T) {
	a := filled(t, 4)
	a.give(2, api.OK)
	a.give(3, api.OK)
	a.give(4, api.OK)
	a.has(1)
	a.take(5, 2, api.OK)
	a.take(6, 3, api.OK)
	a.take(7, 4, api.OK)
	a.take(8, 5, api.OK)
	a.has(1, 5, 6, 7, 8)
	a.give(5, api.OK)
	a.give(1, api.OK)
	a.give(4, api.OK)
	a.has(-1, 5, 6)
	a.take(2, 1, api.OK)
	a.take(3, 4, api.OK)
	a.take(4, 5, api.OK)
	a.take(5, 6, api.OK)
	a.has(2, 5, 6, 3, 4, 5)
}

// P12.2: numbers are given back and taken again, in turn.
func TestInTurn(t *testing.T) {
	a := filled(t, 3)
	for range 3 {
		for id := 1; id <= 3; id++ {
			a.give(id, api.OK)
			a.take(1, id, api.OK)
		}
	}
	a.give(3, api.OK)
	a.give(1, api.OK)
	a.take(1, 1, api.OK)
	a.give(2, api.OK)
	a.take(1, 2, api.OK)
	a.take(1, 3, api.OK)
	a.take(1, 4, api.OK)
	a.has(1, 1, 1, 1)
}

// orders tells each order of these numbers.
func orders(ids []int, tell func([]int)) {
	var put func(at int)
	put = func(at int) {
		if at == len(ids) {
			tell(ids)
			return
		}
		for i := at; i < len(ids); i++ {
			ids[at], ids[i] = ids[i], ids[at]
			put(at + 1)
			ids[at], ids[i] = ids[i], ids[at]
		}
	}
	put(0)
}

// P12.2: all numbers, and some of them, are given back in every order, then taken again.
func TestEveryOrder(t *testing.T) {
	const count = 6
	for set := range 1 << count {
		var ids []int
		for id := 1; id <= count; id++ {
			if set>>(id-1)&1 == 1 {
				ids = append(ids, id)
			}
		}
		rising := slices.Clone(ids)
		orders(ids, func(order []int) {
			p, _ := pool.New(greatest)
			for range count {
				p.Take(1)
			}
			for _, id := range order {
				if err := p.Give(id); err != api.OK {
					t.Fatal(order, id, err)
				}
			}
			for _, want := range append(slices.Clone(rising), count+1, count+2) {
				if id, err := p.Take(1); id != want || err != api.OK {
					t.Fatalf("given back: %v: Take = %d, %v, not %d", order, id, err, want)
				}
			}
		})
	}
}

// P12.2: in the midst of giving back in every order, a number is taken again.
func TestOrderBroken(t *testing.T) {
	ids := []int{1, 2, 3, 4, 5}
	orders(ids, func(order []int) {
		for broken := range len(order) {
			p, _ := pool.New(greatest)
			for range order {
				p.Take(0)
			}
			var free []int
			for at, id := range order {
				p.Give(id)
				free = append(free, id)
				if at == broken {
					least := slices.Min(free)
					if got, err := p.Take(0); got != least || err != api.OK {
						t.Fatal(order, broken, got, err)
					}
					free = slices.DeleteFunc(free, func(id int) bool { return id == least })
				}
			}
			slices.Sort(free)
			for _, want := range append(free, 6) {
				if got, err := p.Take(0); got != want || err != api.OK {
					t.Fatal(order, broken, got, err, want)
				}
			}
		}
	})
}

// crowd answers a pool of as many objects as there may be, each of size 1.
func crowd(t *testing.T) *pool.Pool {
	t.Helper()
	p, err := pool.New(greatest)
	if err != api.OK {
		t.Fatal(err)
	}
	for id := 1; id <= 65536; id++ {
		if got, err := p.Take(1); got != id || err != api.OK {
			t.Fatal(id, got, err)
		}
	}
	return p
}

// noMore asks that there is no object more, and that nothing has changed.
func noMore(t *testing.T, p *pool.Pool) {
	t.Helper()
	used := p.Used()
	for _, size := range []int{0, 1, greatest - used, greatest, greatest + 1, math.MaxInt} {
		if id, err := p.Take(size); id != 0 || err != api.ErrFull {
			t.Errorf("Take(%d) = %d, %v", size, id, err)
		}
	}
	for _, size := range below() {
		if id, err := p.Take(size); id != 0 || err != api.ErrArg {
			t.Errorf("Take(%d) = %d, %v", size, id, err)
		}
	}
	is(t, "Used", p.Used(), used)
	is(t, "Count", p.Count(), 65536)
	size, ok := p.Size(65537)
	is(t, "Size of 65537", size, 0)
	is(t, "Size of 65537", ok, false)
	for at, id := range p.Ids() {
		if id != at+1 {
			t.Fatal("Ids at ", at, ": ", id)
		}
	}
	is(t, "Ids", len(p.Ids()), 65536)
}

// P12.2: as many objects as there may be, and the one behind.
func TestMostObjects(t *testing.T) {
	p := crowd(t)
	is(t, "Used", p.Used(), 65536)
	noMore(t, p)
	for _, id := range []int{1, 65536, 32768, 2, 65535, 777} {
		is(t, "Give", p.Give(id), api.OK)
		is(t, "Count", p.Count(), 65535)
		got, err := p.Take(5)
		is(t, "Take", err, api.OK)
		is(t, "Take", got, id)
		noMore(t, p)
	}
	is(t, "Used", p.Used(), 65536+6*4)
	is(t, "Give", p.Give(65537), api.ErrArg)
	is(t, "Resize", p.Resize(65537, 0), api.ErrArg)
	is(t, "Resize", p.Resize(65536, greatest), api.ErrFull)
	is(t, "Resize", p.Resize(65536, greatest-p.Used()+5), api.OK)
	is(t, "Used", p.Used(), greatest)
	noMore(t, p)
}

// P12.2: as many objects as there may be, all given back in an order, then taken again.
func TestMostOrders(t *testing.T) {
	rising := make([]int, 65536)
	for at := range rising {
		rising[at] = at + 1
	}
	falling := slices.Clone(rising)
	slices.Reverse(falling)
	mixed := slices.Clone(rising)
	rand.New(rand.NewSource(3)).Shuffle(len(mixed), func(i, k int) { mixed[i], mixed[k] = mixed[k], mixed[i] })
	odd := append(slices.DeleteFunc(slices.Clone(rising), func(id int) bool { return id%2 == 0 }), slices.DeleteFunc(slices.Clone(falling), func(id int) bool { return id%2 == 1 })...)
	p := crowd(t)
	for _, order := range [][]int{rising, falling, mixed, odd} {
		for at, id := range order {
			if err := p.Give(id); err != api.OK || p.Count() != 65535-at || p.Used() != 65535-at {
				t.Fatal(at, id, err)
			}
		}
		is(t, "Ids", len(p.Ids()), 0)
		for _, id := range rising {
			if got, err := p.Take(1); got != id || err != api.OK {
				t.Fatal(id, got, err)
			}
		}
		noMore(t, p)
	}
}

// P12.2: half of as many as there may be are given back, in any order, and taken again.
func TestHalf(t *testing.T) {
	p := crowd(t)
	order := rand.New(rand.NewSource(4)).Perm(65536)[:32768]
	for _, at := range order {
		is(t, "Give", p.Give(at+1), api.OK)
	}
	ids := p.Ids()
	is(t, "Ids", len(ids), 32768)
	slices.Sort(order)
	for _, at := range order {
		if _, there := slices.BinarySearch(ids, at+1); there {
			t.Fatal("given back, and there: ", at+1)
		}
		if id, err := p.Take(1); id != at+1 || err != api.OK {
			t.Fatal(at+1, id, err)
		}
	}
	noMore(t, p)
}
