package table_test

import (
	"math/rand"
	"slices"
	"testing"

	"twinstep/api"
	"twinstep/table"
)

// chance_test.go: long scripts by chance, and P13.5.

// call is a Set of a script.
type call struct{ k, v api.Value }

// aKey answers a key: a small integer mostly, one of another kind, or what is none.
func aKey(g *rand.Rand, most int) api.Value {
	switch g.Intn(8) {
	case 0:
		return str(int64(g.Intn(most)))
	case 1:
		return api.Value{Kind: api.Kind(1 + g.Intn(8)), N: int64(g.Intn(2))}
	case 2:
		return someKeys()[g.Intn(len(someKeys()))]
	case 3:
		if g.Intn(4) == 0 {
			return noValues()[g.Intn(len(noValues()))]
		}
		return num(int64(-g.Intn(3)))
	}
	return num(int64(1 + g.Intn(most)))
}

// aValue answers a value: nil as often as tend of 20 says.
func aValue(g *rand.Rand, tend int) api.Value {
	switch n := g.Intn(20); {
	case n < tend:
		return none
	case n == 19 && g.Intn(6) == 0:
		return noValues()[g.Intn(len(noValues()))]
	case n >= 17:
		return api.Value{Kind: api.KFalse}
	}
	return num(int64(g.Intn(100)))
}

func aScript(g *rand.Rand, count, most int) []call {
	var script []call
	tend := 8
	for at := range count {
		if at%50 == 0 {
			tend = 2 + g.Intn(14)
		}
		script = append(script, call{aKey(g, most), aValue(g, tend)})
	}
	return script
}

// Long scripts against the plain list: all is asked behind each call.
func TestScripts(t *testing.T) {
	g := rand.New(rand.NewSource(13))
	longest, went := 0, 0
	for _, most := range []int{1, 2, 3, 5, 10, 30} {
		for range 8 {
			a := begin(t)
			for _, c := range aScript(g, 400, most) {
				places := len(a.plain.places)
				a.set(c.k, c.v)
				if len(a.plain.places) < places {
					went++
				}
				longest = max(longest, len(a.plain.places))
			}
		}
	}
	if longest < 60 || went < 500 {
		t.Error("scripts that do too little: ", longest, went)
	}
}

// P13.5: Get tells what was set last, asked of the answers alone.
func TestLastSet(t *testing.T) {
	g := rand.New(rand.NewSource(14))
	for _, most := range []int{5, 50, 5000} {
		x := made(t)
		last := map[api.Value]api.Value{}
		for _, c := range aScript(g, 20000, most) {
			if x.Set(c.k, c.v) == api.OK {
				last[c.k] = c.v
			}
			if v := x.Get(c.k); v != last[c.k] {
				t.Fatal(c, v, last[c.k])
			}
		}
		for k, v := range last {
			if x.Get(k) != v {
				t.Fatal(k, v, x.Get(k))
			}
		}
	}
}

// P13.5: going through by Next, while values of keys that are there are set by chance, meets each place that is not dead when it is come to, once, in order.
func TestGoThroughByChance(t *testing.T) {
	g := rand.New(rand.NewSource(15))
	skipped := 0
	for range 300 {
		x := made(t)
		for _, c := range aScript(g, 60, 20) {
			x.Set(c.k, c.v)
		}
		skipped += walk(t, g, x)
	}
	if skipped < 500 {
		t.Error("too few dead places: ", skipped)
	}
}

// walk goes through a table, and sets values on the way; it answers how many dead places there were.
func walk(t *testing.T, g *rand.Rand, x *table.Table) int {
	t.Helper()
	places := x.Values()
	at, skipped, k := 0, 0, none
	for {
		next, v, err := x.Next(k)
		for ; at < len(places) && x.Get(places[at]) == none; at += 2 {
			skipped++
		}
		if at >= len(places) {
			if next != none || v != none || err != api.OK {
				t.Fatal(next, v, err)
			}
			return skipped
		}
		if next != places[at] || v != x.Get(next) || err != api.OK {
			t.Fatal(next, v, err, places[at])
		}
		k, at = next, at+2
		for range g.Intn(4) {
			x.Set(places[2*g.Intn(len(places)/2)], aValue(g, 10))
		}
	}
}

// answers does a script, and tells all that was answered.
func answers(x *table.Table, script []call) []api.Value {
	var out []api.Value
	for _, c := range script {
		err := x.Set(c.k, c.v)
		nk, nv, nerr := x.Next(c.k)
		out = append(out, num(int64(err)), x.Get(c.k), nk, nv, num(int64(nerr)), num(x.Len()), num(int64(x.Count())))
		out = append(out, x.Values()...)
	}
	return out
}

// R4: the same calls on two tables are answered alike.
func TestAlike(t *testing.T) {
	g := rand.New(rand.NewSource(16))
	for range 30 {
		script := aScript(g, 300, 15)
		if !slices.Equal(answers(made(t), script), answers(made(t), script)) {
			t.Fatal("not alike: ", script)
		}
	}
}

// A table that is used as a line, or grows and shrinks at its end, is no slower for the places that stay.
func TestLine(t *testing.T) {
	x := many(t, mostPlaces-1)
	for n := int64(1); n <= 200000; n++ {
		if x.Set(num(n), none) != api.OK || x.Set(num(n+mostPlaces-1), num(n)) != api.OK {
			t.Fatal(n)
		}
		if k, _, _ := x.Next(none); k != num(n+1) || x.Count() != mostPlaces-1 || x.Len() != 0 {
			t.Fatal(n, k, x.Count(), x.Len())
		}
	}
}
