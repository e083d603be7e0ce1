package maps_test

import (
	"math"
	"slices"
	"testing"

	"twinstep/api"
	"twinstep/gen"
	"twinstep/maps"
)

// told_test.go: the chapter's words once more.

// wayTold answers how many instructions the longest way through the list that begins at that place has: all ways are gone at once, an instruction a round.
func wayTold(c api.Code, begin int) int {
	most := 0
	here := map[int]bool{begin: true}
	for count := 1; len(here) > 0; count++ {
		next := map[int]bool{}
		for at := range here {
			in := c.Ins[at]
			switch {
			case isEnd(in):
				most = count
			case isTest(in):
				next[in.B], next[in.C] = true, true
			default:
				next[at+1] = true
			}
		}
		here = next
	}
	return most
}

// costTold answers a function's Cost, counted up.
func costTold(f api.Proto) int {
	cost := 20
	for range f.Exprs {
		cost += 10
	}
	return cost
}

// tied asks that all that the package answers of a right code is as the chapter tells, and answers its map.
func tied(t *testing.T, what string, p api.Program, proto int, c api.Code) api.Map {
	t.Helper()
	if !gen.Right(p, proto, c) {
		t.Fatalf("%s: a code that is not right: %s", what, short(shown(c)))
	}
	before := shown(p, c)
	f := p.Protos[proto]
	m, err := maps.Of(p, proto, c)
	gap := costTold(f)
	for _, begin := range c.Start {
		gap = max(gap, wayTold(c, begin))
	}
	if err != api.OK || m.Gap != gap || !slices.Equal(m.PC, c.Start) || !slices.Equal(m.Reg, counted(f.Slots)) {
		t.Fatalf("%s: Of = %v, %v; Gap is %d; %s", what, m, err, gap, short(shown(c)))
	}
	if got := maps.Cost(p, proto); got != costTold(f) {
		t.Errorf("%s: Cost = %d", what, got)
	}
	size := maps.Size(p, proto, c)
	if size != 1+len(f.Stmts)+len(f.Exprs)+len(c.Ins) {
		t.Errorf("%s: Size = %d", what, size)
	}
	if shown(p, c) != before {
		t.Errorf("%s: what was handed in has changed", what)
	}
	follows(t, what, m, size)
	found(t, what, m, len(c.Ins))
	return m
}

// counted answers 0, 1 and on.
func counted(count int) []int {
	var out []int
	for n := range count {
		out = append(out, n)
	}
	return out
}

// follows asks for P11.4.
func follows(t *testing.T, what string, m api.Map, size int) {
	t.Helper()
	if m.Gap < 20 || m.Gap > 30*size {
		t.Errorf("%s: P11.4: Gap %d, Size %d", what, m.Gap, size)
	}
	seen := map[int]int{}
	for stmt, place := range m.PC {
		if other, ok := seen[place]; ok {
			t.Errorf("%s: P11.4: statements %d and %d are at %d", what, other, stmt, place)
		}
		seen[place] = stmt
	}
}

// found asks Stmt at each statement's place, and beside it, and at the code's ends and beyond.
func found(t *testing.T, what string, m api.Map, end int) {
	t.Helper()
	places := []int{math.MinInt, -2, -1, 0, 1, end - 1, end, end + 1, math.MaxInt}
	for _, place := range m.PC {
		places = append(places, place-1, place, place+1)
	}
	least := map[int]int{}
	for stmt := len(m.PC) - 1; stmt >= 0; stmt-- {
		least[m.PC[stmt]] = stmt
	}
	before := shown(m)
	for _, pc := range places {
		want, is := least[pc]
		if got, ok := maps.Stmt(m, pc); got != want || ok != is {
			t.Fatalf("%s: Stmt(%d) = %d, %v, not %d, %v; %v", what, pc, got, ok, want, is, m.PC)
		}
	}
	if shown(m) != before {
		t.Errorf("%s: Stmt has changed the map", what)
	}
}

// refused asks that a code has no map and no Size.
func refused(t *testing.T, what string, p api.Program, proto int, c api.Code) {
	t.Helper()
	before := shown(p, c)
	m, err := maps.Of(p, proto, c)
	if err != api.ErrCode || m.Gap != 0 || len(m.PC) != 0 || len(m.Reg) != 0 {
		t.Errorf("%s: Of = %v, %v", what, m, err)
	}
	if got := maps.Size(p, proto, c); got != 0 {
		t.Errorf("%s: Size = %d", what, got)
	}
	if shown(p, c) != before {
		t.Errorf("%s: what was handed in has changed", what)
	}
}

// asked asks the package of a code that is right or not: gen.Right knows.
func asked(t *testing.T, what string, p api.Program, proto int, c api.Code) bool {
	t.Helper()
	is := gen.Right(p, proto, c)
	if is {
		tied(t, what, p, proto, c)
	} else {
		refused(t, what, p, proto, c)
	}
	return is
}
