package table_test

import (
	"testing"

	"twinstep/api"
	"twinstep/table"
)

// wrong_test.go: keys and values that may not be, tables that New did not make, and lists that are changed.

// P13.2: what is no key or no value is refused, and nothing has changed.
func TestWrongValues(t *testing.T) {
	a := filled(t, num(1), str(2), api.Value{Kind: api.KFalse})
	a.set(str(2), none)
	for _, wrong := range append(noValues(), none) {
		if err := a.set(wrong, num(1)); err != api.ErrValue {
			t.Errorf("Set(%v, 1) = %v", wrong, err)
		}
		if err := a.set(wrong, none); err != api.ErrValue {
			t.Errorf("Set(%v, nil) = %v", wrong, err)
		}
		if len(a.keys) > 200 {
			a.keys = a.keys[:100]
		}
	}
	for _, wrong := range noValues() {
		for _, k := range []api.Value{num(1), str(2), num(9), none, wrong} {
			if err := a.table.Set(k, wrong); err != api.ErrValue {
				t.Errorf("Set(%v, %v) = %v", k, wrong, err)
			}
		}
		a.totals()
		if v := a.table.Get(wrong); v != none {
			t.Errorf("Get(%v) = %v", wrong, v)
		}
		if wrong.Kind != api.KNil {
			a.refuses(wrong)
		}
	}
	a.told()
}

// P13.2: a wrong value is told ahead of a table that is full.
func TestWrongFirst(t *testing.T) {
	x := many(t, mostPlaces)
	if err := x.Set(str(1), api.Value{Kind: api.KCell, N: 1}); err != api.ErrValue {
		t.Error(err)
	}
	if err := x.Set(api.Value{Kind: api.KTrue, N: 1}, num(1)); err != api.ErrValue {
		t.Error(err)
	}
	if err := x.Set(str(1), num(1)); err != api.ErrFull {
		t.Error(err)
	}
}

// silent asks a table that is none for everything.
func silent(t *testing.T, x *table.Table) {
	t.Helper()
	for range 2 {
		for _, k := range append(noValues(), none, num(1), str(1), api.Value{Kind: api.KFalse}) {
			if v := x.Get(k); v != none {
				t.Errorf("Get(%v) = %v", k, v)
			}
			if nk, nv, err := x.Next(k); nk != none || nv != none || err != api.ErrNil {
				t.Errorf("Next(%v) = %v, %v, %v", k, nk, nv, err)
			}
			for _, v := range []api.Value{none, num(2), {Kind: api.KCell, N: 1}} {
				if err := x.Set(k, v); err != api.ErrNil {
					t.Errorf("Set(%v, %v) = %v", k, v, err)
				}
			}
		}
		if x.Len() != 0 || x.Count() != 0 || len(x.Values()) != 0 {
			t.Error(x.Len(), x.Count(), x.Values())
		}
	}
}

// R5: a nil table, and tables that New did not make.
func TestNoTable(t *testing.T) {
	silent(t, nil)
	silent(t, new(table.Table))
	silent(t, &table.Table{})
	a := filled(t, num(1), num(2))
	a.set(num(1), none)
	byHand := *a.table
	silent(t, &byHand)
	a.told()
	a.set(num(3), num(1))
}

// P13.5, R3: a list that Values answered is the asker's, with its spare room.
func TestListsApart(t *testing.T) {
	a := filled(t, num(1), num(2), str(3), str(4))
	a.set(num(2), none)
	one, two := a.table.Values(), a.table.Values()
	for _, list := range [][]api.Value{one, one[:cap(one)]} {
		for i := range list {
			list[i] = api.Value{Kind: api.KTrue}
		}
	}
	_ = append(one[:2], num(77), num(78))
	a.told()
	for i, v := range a.plain.values() {
		if two[i] != v {
			t.Fatal(two)
		}
	}
	a.set(num(5), num(6))
	if one[0] != (api.Value{Kind: api.KTrue}) || two[2] != num(2) || two[3] != none {
		t.Error(one, two)
	}
}
