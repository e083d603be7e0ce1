package table_test

import (
	"fmt"
	"math"
	"slices"
	"testing"

	"twinstep/api"
	"twinstep/table"
)

// told_test.go: the chapter's words once more, of a plain list of places.

// mostPlaces is how many places there may be.
const mostPlaces = 65536

var none api.Value

func num(n int64) api.Value { return api.Value{Kind: api.KInt, N: n} }

func str(n int64) api.Value { return api.Value{Kind: api.KStr, N: n} }

type place struct{ key, value api.Value }

// plain is what a table is to answer.
type plain struct{ places []place }

func dead(p place) bool { return p.value == none }

func (l *plain) at(k api.Value) int {
	return slices.IndexFunc(l.places, func(p place) bool { return p.key == k })
}

func (l *plain) get(k api.Value) api.Value {
	if at := l.at(k); at >= 0 {
		return l.places[at].value
	}
	return none
}

// isValue tells whether v is a value, by a list of all kinds.
func isValue(v api.Value) bool {
	if slices.Contains([]api.Kind{api.KNil, api.KFalse, api.KTrue}, v.Kind) {
		return v.N == 0
	}
	return slices.Contains([]api.Kind{api.KInt, api.KStr, api.KTable, api.KFunc, api.KLib, api.KThread}, v.Kind)
}

func (l *plain) set(k, v api.Value) api.Errno {
	if !isValue(k) || k.Kind == api.KNil || !isValue(v) {
		return api.ErrValue
	}
	if at := l.at(k); at >= 0 {
		l.places[at].value = v
		return api.OK
	}
	if v == none {
		return api.OK
	}
	left := slices.DeleteFunc(slices.Clone(l.places), dead)
	if len(left) == mostPlaces {
		return api.ErrFull
	}
	l.places = append(left, place{k, v})
	return api.OK
}

func (l *plain) length() int64 {
	n := int64(0)
	for l.get(num(n+1)) != none {
		n++
	}
	return n
}

func (l *plain) count() int {
	count := 0
	for _, p := range l.places {
		if !dead(p) {
			count++
		}
	}
	return count
}

func (l *plain) values() []api.Value {
	var list []api.Value
	for _, p := range l.places {
		list = append(list, p.key, p.value)
	}
	return list
}

func (l *plain) next(k api.Value) (api.Value, api.Value, api.Errno) {
	from := 0
	if k.Kind != api.KNil {
		at := l.at(k)
		if at < 0 {
			return none, none, api.ErrArg
		}
		from = at + 1
	}
	for _, p := range l.places[from:] {
		if !dead(p) {
			return p.key, p.value, api.OK
		}
	}
	return none, none, api.OK
}

// asked is a table, the list that tells what it is to answer, the keys that are asked for, and what was called last.
type asked struct {
	t     *testing.T
	table *table.Table
	plain plain
	keys  []api.Value
	last  string
}

// begin answers a new table that is asked.
func begin(t *testing.T) *asked {
	t.Helper()
	a := &asked{t: t, table: made(t), keys: never(), last: "New"}
	a.told()
	return a
}

func made(t *testing.T) *table.Table {
	t.Helper()
	x := table.New()
	if x == nil {
		t.Fatal("New = nil")
	}
	return x
}

// set sets, and asks for all that the list tells.
func (a *asked) set(k, v api.Value) api.Errno {
	a.t.Helper()
	want, err := a.plain.set(k, v), a.table.Set(k, v)
	a.last = fmt.Sprintf("Set(%v, %v)", k, v)
	if err != want {
		a.t.Fatalf("%s = %v, not %v", a.last, err, want)
	}
	if !slices.Contains(a.keys, k) {
		a.keys = append(a.keys, k)
	}
	a.told()
	return err
}

// told asks for all that a table tells, twice.
func (a *asked) told() {
	a.t.Helper()
	for range 2 {
		a.totals()
		a.each()
	}
}

// totals asks for Len, Count and Values.
func (a *asked) totals() {
	a.t.Helper()
	length, count, values := a.table.Len(), a.table.Count(), a.table.Values()
	if length != a.plain.length() || count != a.plain.count() || !slices.Equal(values, a.plain.values()) {
		a.t.Fatalf("behind %s: Len %d, Count %d, Values %v; not %v", a.last, length, count, values, a.plain.places)
	}
}

// each asks for Get and Next of all keys that were ever named, and of some that never are keys.
func (a *asked) each() {
	a.t.Helper()
	for _, k := range a.keys {
		if v := a.table.Get(k); v != a.plain.get(k) {
			a.t.Fatalf("behind %s: Get(%v) = %v of %v", a.last, k, v, a.plain.places)
		}
		nk, nv, err := a.table.Next(k)
		wk, wv, want := a.plain.next(k)
		if nk != wk || nv != wv || err != want {
			a.t.Fatalf("behind %s: Next(%v) = %v, %v, %v of %v", a.last, k, nk, nv, err, a.plain.places)
		}
	}
}

// walked answers the keys that Next meets from nil on.
func (a *asked) walked() []api.Value {
	a.t.Helper()
	var keys []api.Value
	for k, _, err := a.table.Next(none); k != none; k, _, err = a.table.Next(k) {
		if err != api.OK {
			a.t.Fatalf("behind %s: %v", a.last, err)
		}
		keys = append(keys, k)
	}
	return keys
}

// far answers numbers that stand where 0 is asked for, or that are far out.
func far() []int64 {
	return []int64{1, -1, 2, 255, 256, math.MaxInt32, math.MinInt32, 1 << 32, math.MaxInt64, math.MaxInt64 - 1, math.MinInt64, math.MinInt64 + 1}
}

// noValues answers what is neither a key nor a value.
func noValues() []api.Value {
	var list []api.Value
	for _, n := range far() {
		list = append(list, api.Value{Kind: api.KNil, N: n}, api.Value{Kind: api.KFalse, N: n}, api.Value{Kind: api.KTrue, N: n})
	}
	for _, kind := range noKinds() {
		for _, n := range append(far(), 0) {
			list = append(list, api.Value{Kind: kind, N: n})
		}
	}
	return list
}

// noKinds answers kinds that are none of the language; those are the last ones that a byte tells for kinds below 0.
func noKinds() []api.Kind {
	var list []api.Kind
	for kind := int(api.KThread) + 1; kind <= math.MaxUint8; kind++ {
		list = append(list, api.Kind(kind))
	}
	return list
}

// never answers what never has a place.
func never() []api.Value {
	list := []api.Value{none}
	for _, n := range far() {
		list = append(list, api.Value{Kind: api.KNil, N: n}, api.Value{Kind: api.KFalse, N: n}, api.Value{Kind: api.KTrue, N: n}, api.Value{Kind: api.KCell, N: n})
	}
	return append(list, api.Value{Kind: api.KCell}, api.Value{Kind: math.MaxUint8}, api.Value{Kind: math.MaxUint8, N: 1}, api.Value{Kind: 128})
}

// someKeys answers a key of each kind, and the edges.
func someKeys() []api.Value {
	list := []api.Value{{Kind: api.KFalse}, {Kind: api.KTrue}}
	for kind := api.KInt; kind <= api.KThread; kind++ {
		for _, n := range append(far(), 0) {
			list = append(list, api.Value{Kind: kind, N: n})
		}
	}
	return list
}
