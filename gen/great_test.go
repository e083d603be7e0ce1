package gen_test

import (
	"fmt"
	"math/rand"
	"slices"
	"strings"
	"testing"

	"twinstep/api"
)

// great_test.go: P10.2 and P10.3 of texts of every rule, of each kind of expression and statement, of as much as there may be, and of programs by chance.

// P10.2, P10.3: texts of every rule.
func TestTexts(t *testing.T) {
	for _, text := range texts() {
		alike(t, text, program(t, text), 60)
	}
}

// P10.2, P10.3: each kind of statement with each kind of expression, alone, first and last.
func TestEachKind(t *testing.T) {
	kinds := exprsOfAll()
	for _, p := range kinds {
		rest := []part{num(8), global(1)}
		for _, exprs := range [][]part{{p}, append([]part{p}, rest...), append(slices.Clone(rest), p), {rest[0], p, rest[1]}, append(times(7, rest[1]), p)} {
			for _, s := range stmtsOfAll(exprs...) {
				alike(t, fmt.Sprint("statement of kind ", s.Kind, " with an expression of kind ", p.kind), host(s, jump()), 12)
			}
		}
	}
	for _, p := range kinds {
		for _, q := range kinds {
			if p.kind == api.EFunc && q.kind == api.EFunc {
				continue
			}
			for _, k := range []api.ExprKind{api.EIndex, api.ECall, api.EMethod, api.EBin, api.EAnd, api.EOr} {
				n := map[api.ExprKind]int64{api.EBin: 7, api.EMethod: 1}[k]
				alike(t, fmt.Sprint("kind ", k, " of ", p.kind, q.kind), host(returns(num(1), of(k, n, p, q))), 6)
			}
			alike(t, fmt.Sprint("parts ", p.kind, q.kind), host(returns(of(api.ETable, 0, of(api.ENamed, 0, p, num(1)), item(q)))), 6)
			alike(t, fmt.Sprint("parts ", p.kind, q.kind), host(returns(of(api.ETable, 0, item(p), of(api.ENamed, 0, num(1), q)))), 6)
			alike(t, fmt.Sprint("a target of ", p.kind, q.kind), host(stmt(api.SAssign).to(of(api.EIndex, 0, p, q), slot(4)).by(dots())), 6)
		}
	}
	for n := int64(1); n <= 17; n++ {
		alike(t, fmt.Sprint("EBin ", n), host(returns(of(api.EBin, n, slot(1), global(0)))), 5)
	}
	for n := int64(18); n <= 21; n++ {
		alike(t, fmt.Sprint("EUn ", n), host(returns(of(api.EUn, n, slot(1)))), 5)
	}
	alike(t, "all in one", host(append(stmtsOfAll(null())[:16], returns(exprsOfAll()...))...), 40)
}

// nested answers an expression of so many levels, each around the one within it.
func nested(levels int, around func(p part) part) part {
	p := null()
	for range levels {
		p = around(p)
	}
	return p
}

// P10.2: as many values, slots and targets as there may be.
func TestMostValues(t *testing.T) {
	many := func(count int, last ...part) []part { return append(times(count, num(3)), last...) }
	methods := func(parts []part) part { return of(api.EMethod, 1, append([]part{global(0)}, parts...)...) }
	calls := func(parts []part) part { return call(append([]part{global(0)}, parts...)...) }
	slots := times(200, 0)
	for i := range slots {
		slots[i] = i % 5
	}
	targets := []part{}
	for i := range 200 {
		targets = append(targets, of(api.EIndex, 0, slot(int64(i%5)), num(int64(i))))
	}
	for _, parts := range [][]part{many(200), many(199, dots()), many(199, calls(nil)), many(199, methods(many(200))), many(198, dots(), num(1)), many(200)[:1], many(0, dots()), many(0, methods(many(199, dots())))} {
		for _, s := range []stat{
			returns(parts...), returns(calls(parts)), returns(methods(parts)), returns(num(1), paren(methods(parts))), stmt(api.SCall).by(calls(parts)), stmt(api.SCall).by(methods(parts)),
			stmt(api.SLocal).slots(slots...).by(parts...), stmt(api.SLocal).slots(4).by(parts...), stmt(api.SAssign).to(targets...).by(parts...), stmt(api.SAssign).to(slot(4)).by(parts...),
			stmt(api.SAssign).to(times(200, global(1))...).by(parts...), stmt(api.SInPrep).slots(1).by(parts...),
		} {
			alike(t, fmt.Sprint("many values in a statement of kind ", s.Kind), host(s), 6)
		}
	}
	alike(t, "200 slots", host(stmt(api.SLocal).slots(slots...)), 6)
	alike(t, "199 variables", host(stmt(api.SInLoop).slots(append([]int{1}, slots[:199]...)...).orElse(-1)), 20)
	alike(t, "120 slots", alone(120, stmt(api.SLocal).slots(117, 118, 119).by(slot(119), slot(118)), stmt(api.SForPrep).slots(117).by(slot(0), slot(119)), stmt(api.SForLoop).slots(117, 119).orElse(0), stmt(api.SInLoop).slots(117, 0).orElse(0)), 20)
	items := times(2046, item(slot(1)))
	alike(t, "2046 items", host(returns(of(api.ETable, 0, append(items, item(dots()))...))), 3)
	alike(t, "1365 named", host(returns(of(api.ETable, 0, times(1363, of(api.ENamed, 0, slot(1), slot(4)))...))), 3)
	alike(t, "no part", host(returns(of(api.ETable, 0))), 3)
}

// P10.2: expressions in one another, as deep as there may be: there are registers enough.
func TestDeep(t *testing.T) {
	one := num(1)
	for what, p := range map[string]part{
		"parens":              nested(4090, paren),
		"not":                 nested(4090, func(p part) part { return of(api.EUn, 19, p) }),
		"a sum to the right":  nested(2040, func(p part) part { return of(api.EBin, 1, one, p) }),
		"a sum to the left":   nested(2040, func(p part) part { return of(api.EBin, 1, p, one) }),
		"and to the right":    nested(2040, func(p part) part { return of(api.EAnd, 0, one, p) }),
		"and to the left":     nested(2040, func(p part) part { return of(api.EAnd, 0, p, one) }),
		"or to the right":     nested(2040, func(p part) part { return of(api.EOr, 0, null(), p) }),
		"or to the left":      nested(2040, func(p part) part { return of(api.EOr, 0, p, one) }),
		"functions":           nested(4090, func(p part) part { return call(p) }),
		"arguments":           nested(2040, func(p part) part { return call(one, p) }),
		"arguments ahead":     nested(1360, func(p part) part { return call(one, p, one) }),
		"objects":             nested(4090, func(p part) part { return of(api.EMethod, 0, p) }),
		"methods' arguments":  nested(2040, func(p part) part { return of(api.EMethod, 0, one, p) }),
		"methods' last but 1": nested(1360, func(p part) part { return of(api.EMethod, 1, one, p, one) }),
		"tables":              nested(2040, func(p part) part { return of(api.EIndex, 0, p, one) }),
		"keys":                nested(2040, func(p part) part { return of(api.EIndex, 0, one, p) }),
		"items":               nested(2040, func(p part) part { return of(api.ETable, 0, item(p)) }),
		"items ahead":         nested(1020, func(p part) part { return of(api.ETable, 0, item(p), item(one)) }),
		"named parts":         nested(1020, func(p part) part { return of(api.ETable, 0, of(api.ENamed, 0, one, p)) }),
		"parts' keys":         nested(1020, func(p part) part { return of(api.ETable, 0, of(api.ENamed, 0, p, one)) }),
	} {
		alike(t, what, alone(0, returns(p)), 4)
		alike(t, what+" of an assignment", alone(1, stmt(api.SAssign).to(slot(0), of(api.EIndex, 0, slot(0), p)).by(null())), 2)
		alike(t, what+" of a test", alone(1, stmt(api.STest).by(p).orElse(-1)), 2)
	}
}

// P10.2, P10.3: as many statements as there may be.
func TestMostStatements(t *testing.T) {
	made(t, "jumps", rightly(t, alone(0, times(4096, jump())...)), 0)
	made(t, "tests", rightly(t, alone(0, times(4096, stmt(api.STest).by(null()).orElse(4095))...)), 0)
	made(t, "loops", rightly(t, alone(4, times(4096, stmt(api.SForLoop).slots(0, 3).orElse(-1))...)), 0)
	made(t, "variables", rightly(t, alone(1, times(300, stmt(api.SLocal).slots(times(200, 0)...))...)), 0)
	made(t, "functions' variables", rightly(t, alone(4, times(300, stmt(api.SInLoop).slots(append([]int{0}, times(199, 3)...)...).orElse(-1))...)), 0)
	for what, text := range map[string]string{
		"functions":   strings.Repeat("f(function() end) ", 199),
		"expressions": "return " + strings.Repeat("a + ", 2045) + "a",
		"loops":       strings.Repeat("for i in f do end ", 1020),
		"120 slots":   "local " + numbered("v", 120) + "\nreturn " + numbered("v", 120),
		"60 Ups":      "local " + numbered("v", 120) + "\nreturn function() return function() return " + numbered("v", 60) + " end, v1 end",
	} {
		alike(t, what, program(t, text), 3)
	}
}

// grower puts programs together by chance.
type grower struct {
	*rand.Rand
	fuel int
	host api.Proto     // its Slots, Boxed, Ups and More are known ahead
	made []api.Proto   // the functions within
	next func() int    // the next one's number
	kids func() []part // a few values
}

// newGrower answers what fills the function 1 of a program.
func newGrower(seed, fuel int) *grower {
	g := &grower{Rand: rand.New(rand.NewSource(int64(seed))), fuel: fuel}
	g.host = plain(3 + g.Intn(5))
	for i := range g.host.Boxed {
		g.host.Boxed[i] = g.Intn(3) == 0
	}
	for range g.Intn(3) {
		g.host.Ups = append(g.host.Ups, local(g.Intn(2)))
	}
	g.host.More = g.Intn(3) > 0
	g.kids = func() []part {
		var out []part
		for range g.Intn(4) {
			out = append(out, g.value())
		}
		return out
	}
	return g
}

// function answers an EFunc of a function more, which has variables that it may have.
func (g *grower) function() part {
	f := plain(0)
	f.Start = -1
	for range g.Intn(4) {
		slot := g.Intn(g.host.Slots)
		if g.host.Boxed[slot] {
			f.Ups = append(f.Ups, local(slot))
		} else if len(g.host.Ups) > 0 {
			f.Ups = append(f.Ups, outer(g.Intn(len(g.host.Ups))))
		}
	}
	g.made = append(g.made, f)
	return function(int64(len(g.made) + 1))
}

// value answers a value.
func (g *grower) value() part {
	g.fuel--
	if g.fuel < 0 || g.Intn(3) == 0 {
		return g.leaf()
	}
	switch g.Intn(12) {
	case 0:
		return of(api.EIndex, 0, g.value(), g.value())
	case 1, 2, 3:
		return call(append([]part{g.value()}, g.kids()...)...)
	case 4:
		return of(api.EMethod, int64(g.Intn(2)), append([]part{g.value()}, g.kids()...)...)
	case 5:
		return of(api.EBin, 1+int64(g.Intn(17)), g.value(), g.value())
	case 6, 7:
		return of(api.EAnd+api.ExprKind(g.Intn(2)), 0, g.value(), g.value())
	case 8:
		return of(api.EUn, 18+int64(g.Intn(4)), g.value())
	case 9:
		return paren(g.value())
	case 10:
		if len(g.made) < 20 {
			return g.function()
		}
	}
	t := of(api.ETable, 0)
	for range g.Intn(4) {
		p := item(g.value())
		if g.Intn(3) == 0 {
			p = of(api.ENamed, 0, g.value(), g.value())
		}
		t.parts = append(t.parts, p)
	}
	return t
}

// leaf answers a value without kids.
func (g *grower) leaf() part {
	switch g.Intn(9) {
	case 0:
		return of(api.ENil+api.ExprKind(g.Intn(3)), 0)
	case 1:
		return num(int64(g.Intn(5)) - 2)
	case 2:
		return of(api.EStr, int64(g.Intn(2)))
	case 3:
		return global(int64(g.Intn(2)))
	case 4, 5:
		if g.host.More {
			return dots()
		}
	case 6:
		if len(g.host.Ups) > 0 {
			return of(api.EUp, int64(g.Intn(len(g.host.Ups))))
		}
	}
	return slot(int64(g.Intn(g.host.Slots)))
}

// target answers what may get a value.
func (g *grower) target() part {
	switch g.Intn(4) {
	case 0:
		return of(api.EIndex, 0, g.value(), g.value())
	case 1:
		return global(int64(g.Intn(2)))
	case 2:
		if len(g.host.Ups) > 0 {
			return of(api.EUp, int64(g.Intn(len(g.host.Ups))))
		}
	}
	return slot(int64(g.Intn(g.host.Slots)))
}

// stat answers a statement.
func (g *grower) stat() stat {
	own := []int{g.Intn(g.host.Slots)}
	for range g.Intn(4) {
		own = append(own, g.Intn(g.host.Slots))
	}
	hidden := g.Intn(g.host.Slots - 2)
	exprs := append(g.kids(), g.value())
	switch s := stmt(api.StmtKind(1 + g.Intn(11))); s.Kind {
	case api.SLocal:
		return s.slots(own...).by(exprs[g.Intn(2):]...)
	case api.SAssign:
		for range own {
			s.targets = append(s.targets, g.target())
		}
		return s.by(exprs...)
	case api.SCall:
		return s.by(call(exprs...))
	case api.STest:
		return s.by(g.value())
	case api.SForPrep:
		if g.Intn(2) == 0 {
			exprs = []part{num(int64(g.Intn(5))), num(int64(g.Intn(5))), num(int64(g.Intn(5)) - 2)}
			exprs[g.Intn(3)] = []part{g.leaf(), num(1), num(2)}[g.Intn(3)]
		}
		return s.slots(hidden).by(append(exprs, num(1), num(2))[:2+g.Intn(2)]...)
	case api.SForLoop:
		return s.slots(hidden, own[0])
	case api.SInPrep:
		return s.slots(hidden).by(exprs...)
	case api.SInLoop:
		return s.slots(append([]int{hidden}, own...)...)
	case api.SFunc:
		return s.slots(own[0]).by(g.function())
	case api.SReturn:
		return s.by(exprs[g.Intn(2):]...)
	default:
		return s
	}
}

// program answers a program as a whole.
func (g *grower) program() api.Program {
	var stats []stat
	for len(stats) == 0 || g.fuel > 0 {
		stats = append(stats, g.stat())
	}
	f := lay(g.host, stats...)
	for i := range f.Stmts {
		s := &f.Stmts[i]
		if s.Kind != api.SReturn {
			s.Next = g.Intn(len(f.Stmts)+1) - 1
		}
		switch s.Kind {
		case api.STest, api.SForLoop, api.SInLoop:
			s.Else = g.Intn(len(f.Stmts)+1) - 1
		}
	}
	outermost := lay(root(boxed(true, true)), returns(function(1)))
	return api.Program{Strs: []string{"a", "b"}, Protos: append([]api.Proto{outermost, trimmed(f, &g.made)}, g.made...)}
}

// trimmed answers f; functions of which no EFunc stands in it are gone from made, the others have numbers without gaps.
func trimmed(f api.Proto, made *[]api.Proto) api.Proto {
	var kept []api.Proto
	for i, e := range f.Exprs {
		if e.Kind == api.EFunc {
			kept = append(kept, (*made)[e.N-2])
			f.Exprs[i].N = int64(len(kept) + 1)
		}
	}
	*made = kept
	return f
}

// P10.2, P10.3: programs by chance.
func TestGrown(t *testing.T) {
	seen := map[string]int{}
	for seed := range 4000 {
		p := newGrower(seed, []int{3, 10, 30, 100}[seed%4]).program()
		for what, count := range alike(t, fmt.Sprint("seed ", seed), p, 6) {
			seen[what] += count
		}
	}
	t.Log(seen)
	for _, what := range []string{"ends", "else", "next", "by chance", "too many values", "index is nil", "no such variable", "step is zero", "from is no number", "limit is no number", "step is no number"} {
		if seen[what] < 20 {
			t.Errorf("%s: %d", what, seen[what])
		}
	}
	for k := 1; k <= 11; k++ {
		if what := fmt.Sprint("statement ", k); seen[what] < 500 {
			t.Errorf("%s: %d", what, seen[what])
		}
	}
}
