package table_test

import (
	"slices"
	"testing"

	"twinstep/api"
	"twinstep/table"
)

// table_test.go: the promises by hand.

// filled answers a table with the keys, each of the value that is ten times its place.
func filled(t *testing.T, keys ...api.Value) *asked {
	t.Helper()
	a := begin(t)
	for i, k := range keys {
		a.set(k, num(int64(10*i+10)))
	}
	return a
}

// is holds the list that Values answers against places.
func (a *asked) is(places ...api.Value) {
	a.t.Helper()
	if got := a.table.Values(); !slices.Equal(got, places) {
		a.t.Errorf("behind %s: %v, not %v", a.last, got, places)
	}
}

// meets holds what Next answers of a key against what it should.
func (a *asked) meets(k, nk, nv api.Value) {
	a.t.Helper()
	if gk, gv, err := a.table.Next(k); gk != nk || gv != nv || err != api.OK {
		a.t.Errorf("behind %s: Next(%v) = %v, %v, %v, not %v, %v", a.last, k, gk, gv, err, nk, nv)
	}
}

func (a *asked) refuses(k api.Value) {
	a.t.Helper()
	if gk, gv, err := a.table.Next(k); gk != none || gv != none || err != api.ErrArg {
		a.t.Errorf("behind %s: Next(%v) = %v, %v, %v, not ErrArg", a.last, k, gk, gv, err)
	}
}

func (a *asked) hasLen(n int64) {
	a.t.Helper()
	if got := a.table.Len(); got != n {
		a.t.Errorf("behind %s: Len = %d, not %d", a.last, got, n)
	}
}

// The chapter's examples.
func TestExamples(t *testing.T) {
	a, x, y := begin(t), str(1), str(2)
	a.set(num(1), str(11))
	a.set(num(2), str(12))
	a.set(x, str(13))
	a.hasLen(2)
	a.meets(none, num(1), str(11))
	a.set(num(1), none)
	a.meets(num(1), num(2), str(12))
	a.hasLen(0)
	if a.table.Count() != 2 {
		t.Error(a.table.Count())
	}
	a.set(y, str(14))
	a.refuses(num(1))
	if err := a.set(none, str(11)); err != api.ErrValue {
		t.Error(err)
	}
}

// P13.1: a new table has no places; two of them share none.
func TestNew(t *testing.T) {
	a, b := begin(t), begin(t)
	a.is()
	a.hasLen(0)
	a.meets(none, none, none)
	for _, k := range someKeys() {
		if v := a.table.Get(k); v != none {
			t.Errorf("Get(%v) = %v", k, v)
		}
		a.refuses(k)
	}
	a.set(num(1), num(2))
	b.told()
	b.set(num(1), num(3))
	a.told()
}

// P13.1: Get tells a key's value, of each kind of both; kinds are told apart where the numbers are alike.
func TestGet(t *testing.T) {
	a := begin(t)
	keys := someKeys()
	for i, k := range keys {
		if err := a.set(k, keys[len(keys)-1-i]); err != api.OK {
			t.Fatal(k, err)
		}
	}
	for i, k := range keys {
		if v := a.table.Get(k); v != keys[len(keys)-1-i] {
			t.Errorf("Get(%v) = %v", k, v)
		}
	}
	if a.table.Count() != len(keys) || len(a.table.Values()) != 2*len(keys) {
		t.Error(a.table.Count(), len(keys))
	}
	for _, k := range keys {
		if err := a.set(k, none); err != api.OK || a.table.Get(k) != none {
			t.Fatal(k, err, a.table.Get(k))
		}
	}
}

// P13.2: a key that has a place keeps it, whatever it is set to.
func TestSetThere(t *testing.T) {
	a := filled(t, str(1), str(2), str(3))
	a.set(str(2), str(9))
	a.is(str(1), num(10), str(2), str(9), str(3), num(30))
	a.set(str(2), none)
	a.is(str(1), num(10), str(2), none, str(3), num(30))
	a.set(str(2), none)
	a.is(str(1), num(10), str(2), none, str(3), num(30))
	a.set(str(2), api.Value{Kind: api.KFalse})
	a.is(str(1), num(10), str(2), api.Value{Kind: api.KFalse}, str(3), num(30))
	for range 5 {
		a.set(str(1), none)
		a.set(str(1), num(1))
	}
	a.is(str(1), num(1), str(2), api.Value{Kind: api.KFalse}, str(3), num(30))
	a.set(str(4), num(4))
	a.is(str(1), num(1), str(2), api.Value{Kind: api.KFalse}, str(3), num(30), str(4), num(4))
}

// P13.2: nil to a key without a place makes none, and dead ones stay.
func TestSetNilNew(t *testing.T) {
	a := filled(t, str(1), str(2))
	if err := a.set(str(3), none); err != api.OK {
		t.Error(err)
	}
	a.is(str(1), num(10), str(2), num(20))
	a.refuses(str(3))
	a.set(str(1), none)
	a.set(str(3), none)
	a.is(str(1), none, str(2), num(20))
	a.meets(str(1), str(2), num(20))
}

// P13.2: a new key drives out all dead places, be they one, some, all or none of them.
func TestSetNew(t *testing.T) {
	keys := []api.Value{num(1), num(2), num(3), num(4)}
	for which := range 1 << len(keys) {
		a := filled(t, keys...)
		for i, k := range keys {
			if which>>i&1 != 0 {
				a.set(k, none)
			}
		}
		a.set(str(1), str(2))
		var left []api.Value
		for i, k := range keys {
			if which>>i&1 == 0 {
				left = append(left, k, num(int64(10*i+10)))
				continue
			}
			a.refuses(k)
		}
		a.is(append(left, str(1), str(2))...)
		for _, k := range keys {
			a.set(k, str(3))
		}
	}
}

// P13.2: a place that died and has a value again does not go; that of a key that went comes behind all others.
func TestSetAgain(t *testing.T) {
	a := filled(t, str(1), str(2), str(3))
	a.set(str(1), none)
	a.set(str(2), none)
	a.set(str(1), num(7))
	a.set(str(4), num(8))
	a.is(str(1), num(7), str(3), num(30), str(4), num(8))
	a.set(str(1), none)
	a.set(str(2), num(9))
	a.is(str(3), num(30), str(4), num(8), str(2), num(9))
	a.set(str(1), num(6))
	a.is(str(3), num(30), str(4), num(8), str(2), num(9), str(1), num(6))
}

// many answers a table with the integers from 1 to n.
func many(t *testing.T, n int64) *table.Table {
	t.Helper()
	x := made(t)
	for i := int64(1); i <= n; i++ {
		if err := x.Set(num(i), num(-i)); err != api.OK {
			t.Fatal(i, err)
		}
	}
	return x
}

// sound holds a table with a great many places against places.
func sound(t *testing.T, x *table.Table, places []api.Value, length int64, count int) {
	t.Helper()
	if !slices.Equal(x.Values(), places) || x.Len() != length || x.Count() != count {
		t.Fatal(len(x.Values()), len(places), x.Len(), length, x.Count(), count)
	}
}

// P13.2: the 65536th place is there, the one behind is refused, and nothing has changed then.
func TestFull(t *testing.T) {
	x := many(t, mostPlaces-1)
	if err := x.Set(str(1), str(2)); err != api.OK {
		t.Fatal(err)
	}
	all := x.Values()
	sound(t, x, all, mostPlaces-1, mostPlaces)
	for _, k := range []api.Value{num(mostPlaces), num(0), {Kind: api.KTrue}} {
		if err := x.Set(k, num(5)); err != api.ErrFull {
			t.Fatal(k, err)
		}
		if k2, v2, err := x.Next(k); x.Get(k) != none || k2 != none || v2 != none || err != api.ErrArg {
			t.Fatal(k, k2, v2, err)
		}
		if err := x.Set(k, none); err != api.OK {
			t.Fatal(k, err)
		}
	}
	sound(t, x, all, mostPlaces-1, mostPlaces)
	if err := x.Set(num(9), num(99)); err != api.OK || x.Get(num(9)) != num(99) {
		t.Fatal(err)
	}
	if err := x.Set(none, num(1)); err != api.ErrValue {
		t.Fatal(err)
	}
}

// P13.2: where there are 65536 places, some of them dead, those go, and there is room again.
func TestFullDead(t *testing.T) {
	x := many(t, mostPlaces)
	for _, n := range []int64{mostPlaces, 1, 7000} {
		x.Set(num(n), none)
	}
	if len(x.Values()) != 2*mostPlaces || x.Len() != 0 || x.Count() != mostPlaces-3 {
		t.Fatal(len(x.Values()), x.Len(), x.Count())
	}
	if err := x.Set(num(7000), num(7)); err != api.OK || len(x.Values()) != 2*mostPlaces {
		t.Fatal(err)
	}
	for i, want := range []api.Errno{api.OK, api.OK, api.ErrFull, api.ErrFull} {
		if err := x.Set(str(int64(i)), num(1)); err != want {
			t.Fatal(i, err)
		}
	}
	list := x.Values()
	if len(list) != 2*mostPlaces || list[0] != num(2) || list[2*mostPlaces-4] != str(0) || list[2*mostPlaces-2] != str(1) {
		t.Fatal(len(list))
	}
	for n := int64(2); n < mostPlaces; n++ {
		x.Set(num(n), none)
	}
	if len(x.Values()) != 2*mostPlaces || x.Count() != 2 {
		t.Fatal(len(x.Values()), x.Count())
	}
	if err := x.Set(num(1), num(1)); err != api.OK {
		t.Fatal(err)
	}
	sound(t, x, []api.Value{str(0), num(1), str(1), num(1), num(1), num(1)}, 1, 3)
}

// P13.3: Len with 1 missing, with a gap, with 0 and integers below, in any order, with nil in the midst.
func TestLen(t *testing.T) {
	a := filled(t, num(2), num(3))
	a.hasLen(0)
	a.set(num(0), num(1))
	a.set(num(-1), num(1))
	a.hasLen(0)
	a.set(num(1), num(1))
	a.hasLen(3)
	a.set(num(5), num(1))
	a.hasLen(3)
	a.set(num(4), num(1))
	a.hasLen(5)
	a.set(num(3), none)
	a.hasLen(2)
	a.set(num(0), none)
	a.set(num(-1), none)
	a.hasLen(2)
	a.set(num(6), num(1))
	a.hasLen(2)
	a.set(num(3), api.Value{Kind: api.KFalse})
	a.hasLen(6)
	a.set(num(7), none)
	a.set(num(6), none)
	a.hasLen(5)
	a.set(str(6), num(1))
	a.set(str(3), num(1))
	a.set(str(3), none)
	a.set(api.Value{Kind: api.KTable, N: 6}, num(1))
	a.hasLen(5)
	a.set(num(1), none)
	a.hasLen(0)
	a.set(num(1), num(1))
	a.hasLen(5)
}

// P13.3: Len in every order of five integers, set and taken away.
func TestLenOrders(t *testing.T) {
	orders([]int64{1, 2, 3, 4, 5}, func(order []int64) {
		a := begin(t)
		for _, n := range order {
			a.set(num(n), num(n))
		}
		a.hasLen(5)
		for _, n := range order {
			a.set(num(n), none)
		}
		a.hasLen(0)
		for _, n := range order {
			a.set(num(n), num(n))
		}
		a.hasLen(5)
	})
}

// orders hands out a list in every order.
func orders(list []int64, out func([]int64)) {
	var from func(at int)
	from = func(at int) {
		if at == len(list) {
			out(list)
			return
		}
		for i := at; i < len(list); i++ {
			list[at], list[i] = list[i], list[at]
			from(at + 1)
			list[at], list[i] = list[i], list[at]
		}
	}
	from(0)
}

// P13.4: of nil, whatever stands beside its Kind, the first place that is not dead.
func TestNextNil(t *testing.T) {
	a := filled(t, str(1), str(2), str(3))
	for _, n := range append(far(), 0) {
		a.meets(api.Value{Kind: api.KNil, N: n}, str(1), num(10))
	}
	a.set(str(1), none)
	a.set(str(2), none)
	for _, n := range append(far(), 0) {
		a.meets(api.Value{Kind: api.KNil, N: n}, str(3), num(30))
	}
}

// P13.4: of the last place, of dead ones, of keys that went or never were.
func TestNextEdges(t *testing.T) {
	a := filled(t, num(1), num(2), num(3), num(4))
	a.meets(num(4), none, none)
	a.set(num(2), none)
	a.set(num(3), none)
	a.meets(num(1), num(4), num(40))
	a.meets(num(2), num(4), num(40))
	a.meets(num(3), num(4), num(40))
	a.set(num(4), none)
	a.meets(num(1), none, none)
	a.meets(num(4), none, none)
	a.refuses(num(5))
	a.refuses(str(1))
	a.set(num(1), none)
	for _, k := range []api.Value{none, num(1), num(2), num(3), num(4)} {
		a.meets(k, none, none)
	}
	a.set(num(9), num(90))
	for n := int64(1); n <= 4; n++ {
		a.refuses(num(n))
	}
	a.meets(none, num(9), num(90))
	a.meets(num(9), none, none)
}

// P13.5: going through while values of keys that are there are set.
func TestGoThrough(t *testing.T) {
	a := filled(t, num(1), num(2), num(3), num(4), num(5))
	var met []api.Value
	for k, _, err := a.table.Next(none); k != none; k, _, err = a.table.Next(k) {
		if err != api.OK {
			t.Fatal(err)
		}
		met = append(met, k)
		switch k {
		case num(1):
			a.set(num(1), none)
			a.set(num(3), none)
		case num(2):
			a.set(num(3), str(3))
			a.set(num(4), none)
			a.set(num(1), str(1))
		case num(3):
			a.set(num(6), none)
			a.set(num(3), none)
		}
	}
	if want := []api.Value{num(1), num(2), num(3), num(5)}; !slices.Equal(met, want) {
		t.Errorf("met %v, not %v", met, want)
	}
	if want := []api.Value{num(1), num(2), num(5)}; !slices.Equal(a.walked(), want) {
		t.Errorf("met %v, not %v", a.walked(), want)
	}
}
