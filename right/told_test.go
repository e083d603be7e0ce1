package right_test

import (
	"fmt"
	"math"
	"slices"
	"strings"
	"testing"

	"twinstep/api"
	"twinstep/right"
)

// told_test.go: programs put together, what is asked of each of them, and the chapter's words once more: what toldWrong answers nothing of is what Right should find right.

// part is an expression with its kids.
type part struct {
	kind  api.ExprKind
	n     int64
	parts []part
}

func of(k api.ExprKind, n int64, parts ...part) part { return part{k, n, parts} }
func one() part                                      { return of(api.EInt, 1) }
func function(n int64) part                          { return of(api.EFunc, n) }
func item() part                                     { return of(api.EItem, 0, one()) }
func times[T any](count int, one T) []T              { return slices.Repeat([]T{one}, count) }

// stat is a statement with its expressions.
type stat struct {
	api.Stmt
	targets, exprs []part
}

func stmt(k api.StmtKind) stat               { return stat{Stmt: api.Stmt{Kind: k, Line: 1}} }
func (s stat) slots(slots ...int) stat       { s.Slots = slots; return s }
func (s stat) to(targets ...part) stat       { s.targets = targets; return s }
func (s stat) by(exprs ...part) stat         { s.exprs = exprs; return s }
func (s stat) orElse(place int) stat         { s.Else = place; return s }
func returns(exprs ...part) stat             { return stmt(api.SReturn).by(exprs...) }
func jump() stat                             { return stmt(api.SJump) }
func boxed(slots ...bool) api.Proto          { return api.Proto{Slots: len(slots), Boxed: slots} }
func plain(slots int) api.Proto              { return boxed(make([]bool, slots)...) }
func root(f api.Proto) api.Proto             { f.More = true; return f }
func ups(f api.Proto, u ...api.Up) api.Proto { f.Ups = u; return f }
func local(at int) api.Up                    { return api.Up{Local: true, At: at} }
func outer(at int) api.Up                    { return api.Up{At: at} }

// lay answers f with these statements, each of which goes on at the next one; an expression stands behind its kids.
func lay(f api.Proto, stats ...stat) api.Proto {
	var put func(p part) int
	put = func(p part) int {
		e := api.Expr{Kind: p.kind, N: p.n}
		for _, kid := range p.parts {
			e.Kids = append(e.Kids, put(kid))
		}
		f.Exprs = append(f.Exprs, e)
		return len(f.Exprs) - 1
	}
	for i, s := range stats {
		for _, p := range s.targets {
			s.Targets = append(s.Targets, put(p))
		}
		for _, p := range s.exprs {
			s.Exprs = append(s.Exprs, put(p))
		}
		s.Next = i + 1
		if s.Kind == api.SReturn || s.Next == len(stats) {
			s.Next = -1
		}
		f.Stmts = append(f.Stmts, s.Stmt)
	}
	if len(stats) == 0 {
		f.Start = -1
	}
	return f
}

// alone answers a program of one function of so many slots and these statements, and two texts.
func alone(slots int, stats ...stat) api.Program {
	return api.Program{Strs: []string{"a", "b"}, Protos: []api.Proto{lay(root(plain(slots)), stats...)}}
}

// names tells whether some EFunc of parts, or in them, is of function n.
func names(parts []part, n int64) bool {
	return slices.ContainsFunc(parts, func(p part) bool { return p.kind == api.EFunc && p.n == n || names(p.parts, n) })
}

// host answers a program of three functions, each in the one ahead. The middle one, which has 5 slots and 2 Ups, has these statements; only if they name no function 2, it has one more that does.
func host(stats ...stat) api.Program {
	if !slices.ContainsFunc(stats, func(s stat) bool { return names(s.exprs, 2) || names(s.targets, 2) }) {
		stats = append(slices.Clone(stats), returns(function(2)))
	}
	middle := ups(boxed(true, false, false, false, true), local(0), local(2))
	middle.Params = 1
	return api.Program{
		Strs: []string{"a", "b"},
		Protos: []api.Proto{
			lay(root(boxed(true, false, true)), returns(function(1))),
			lay(root(middle), stats...),
			lay(ups(plain(0), local(4), outer(1))),
		},
	}
}

// copied answers p in memory of its own, the room behind its lists too.
func copied(p api.Program) api.Program {
	out := api.Program{Strs: whole(p.Strs), Protos: whole(p.Protos)}
	for i, f := range out.Protos {
		f.Boxed, f.Ups, f.Stmts, f.Exprs = whole(f.Boxed), whole(f.Ups), whole(f.Stmts), whole(f.Exprs)
		for k, s := range f.Stmts {
			f.Stmts[k].Slots, f.Stmts[k].Targets, f.Stmts[k].Exprs = whole(s.Slots), whole(s.Targets), whole(s.Exprs)
		}
		for k, e := range f.Exprs {
			f.Exprs[k].Kids = whole(e.Kids)
		}
		out.Protos[i] = f
	}
	return out
}

// whole answers a copy of list with the room behind it.
func whole[T any](list []T) []T {
	return slices.Clone(list[:cap(list)])[:len(list):cap(list)]
}

// shown tells a program with all that it has, the room behind its lists of numbers too.
func shown(p api.Program) string {
	var out strings.Builder
	fmt.Fprintf(&out, "%q", p.Strs[:cap(p.Strs)])
	for _, f := range p.Protos {
		fmt.Fprint(&out, "\n", f.Params, f.More, f.Slots, f.Start, f.Boxed[:cap(f.Boxed)], f.Ups[:cap(f.Ups)], len(f.Boxed), len(f.Ups))
		for _, s := range f.Stmts {
			fmt.Fprint(&out, "; ", s.Kind, s.Next, s.Else, s.Line, s.Slots[:cap(s.Slots)], s.Targets[:cap(s.Targets)], s.Exprs[:cap(s.Exprs)], len(s.Slots), len(s.Targets), len(s.Exprs))
		}
		for _, e := range f.Exprs {
			fmt.Fprint(&out, ", ", e.Kind, e.N, e.Kids[:cap(e.Kids)], len(e.Kids))
		}
	}
	return out.String()
}

// short tells a text shortly.
func short(s string) string {
	if len(s) > 900 {
		return s[:450] + " .. " + s[len(s)-450:]
	}
	return s
}

// emptied answers p with lists that are empty in the place of such as are nil, or the other way round.
func emptied(p api.Program, to bool) api.Program {
	p = copied(p)
	p.Strs = empty(p.Strs, to)
	for i := range p.Protos {
		f := &p.Protos[i]
		f.Boxed, f.Ups, f.Stmts, f.Exprs = empty(f.Boxed, to), empty(f.Ups, to), empty(f.Stmts, to), empty(f.Exprs, to)
		for k, s := range f.Stmts {
			f.Stmts[k].Slots, f.Stmts[k].Targets, f.Stmts[k].Exprs = empty(s.Slots, to), empty(s.Targets, to), empty(s.Exprs, to)
		}
		for k, e := range f.Exprs {
			f.Exprs[k].Kids = empty(e.Kids, to)
		}
	}
	return p
}

func empty[T any](list []T, to bool) []T {
	switch {
	case len(list) > 0:
		return list
	case to:
		return make([]T, 0, 3)
	}
	return nil
}

// numbersOf are numbers of functions, such as p has and such as it has not.
func numbersOf(p api.Program) []int {
	out := []int{math.MinInt, -200, -1, len(p.Protos), len(p.Protos) + 1, math.MaxInt}
	for n := range p.Protos {
		out = append(out, n)
	}
	return out
}

// tell asks whether p is right; and what holds beside that.
func tell(t *testing.T, what string, p api.Program, want bool) {
	t.Helper()
	before := copied(p)
	if got := right.Right(p); got != want {
		t.Errorf("%s: Right = %v: %s", what, got, short(shown(p)))
	}
	if not := toldWrong(p); (not == "") != want {
		t.Errorf("%s: the second reading says %q: %s", what, not, short(shown(p)))
	}
	for _, n := range numbersOf(p) {
		if got, not := right.Proto(p, n), toldWrongProto(p, n); got != (not == "") {
			t.Errorf("%s: Proto %d = %v, the second reading says %q", what, n, got, not)
		}
	}
	if shown(p) != shown(before) {
		t.Errorf("%s: it was changed", what)
	}
	if want {
		inside(t, what, p)
	}
	for _, to := range []bool{false, true} {
		if got := right.Right(emptied(p, to)); got != want {
			t.Errorf("%s, with empty lists that are nil (%v): Right = %v", what, !to, got)
		}
	}
}

// tellProto asks whether function n of p is right, whatever else p has.
func tellProto(t *testing.T, what string, p api.Program, n int, want bool) {
	t.Helper()
	others := api.Program{Strs: make([]string, len(p.Strs)), Protos: make([]api.Proto, len(p.Protos))}
	others.Protos[n] = p.Protos[n]
	for _, q := range []api.Program{p, others} {
		if got := right.Proto(q, n); got != want {
			t.Errorf("%s: Proto %d = %v: %s", what, n, got, short(shown(q)))
		}
		if not := toldWrongProto(q, n); (not == "") != want {
			t.Errorf("%s: Proto %d: the second reading says %q", what, n, not)
		}
	}
}

// inside asks for P9.2 of a right program: of the statements that there is a way to from its beginning, and from any statement.
func inside(t *testing.T, what string, p api.Program) {
	t.Helper()
	for i, f := range p.Protos {
		been := make([]bool, len(f.Stmts))
		todo := []int{f.Start}
		for k := range f.Stmts {
			todo = append(todo, k)
		}
		for len(todo) > 0 {
			at := todo[len(todo)-1]
			todo = todo[:len(todo)-1]
			if at < -1 || at >= len(f.Stmts) {
				t.Fatalf("%s: function %d: a way leads to %d", what, i, at)
			}
			if at == -1 || been[at] {
				continue
			}
			been[at] = true
			todo = append(todo, f.Stmts[at].Next)
			if forks(f.Stmts[at].Kind) {
				todo = append(todo, f.Stmts[at].Else)
			}
		}
	}
}

func forks(k api.StmtKind) bool { return k == api.STest || k == api.SForLoop || k == api.SInLoop }

// toldWrong tells what a program has that it may not have, or nothing.
func toldWrong(p api.Program) string {
	if len(p.Protos) < 1 || len(p.Protos) > 200 || len(p.Strs) > 4096 {
		return "how many"
	}
	sorted := slices.Clone(p.Strs)
	slices.Sort(sorted)
	for i, s := range sorted {
		if len(s) > 65535 || i > 0 && sorted[i-1] == s {
			return "Strs"
		}
	}
	if root := p.Protos[0]; root.Params != 0 || !root.More || len(root.Ups) > 0 {
		return "function 0"
	}
	around := make([][]int, len(p.Protos))
	for i, f := range p.Protos {
		if what := toldWrongProto(p, i); what != "" {
			return fmt.Sprint("function ", i, ": ", what)
		}
		for _, e := range f.Exprs {
			if e.Kind == api.EFunc {
				around[e.N] = append(around[e.N], i)
			}
		}
	}
	for i, f := range p.Protos {
		if i == 0 && len(around[0]) == 0 {
			continue
		}
		if i == 0 || len(around[i]) != 1 || around[i][0] >= i {
			return fmt.Sprint("around function ", i)
		}
		outer := p.Protos[around[i][0]]
		for _, up := range f.Ups {
			if up.At < 0 || up.Local && (up.At >= outer.Slots || !outer.Boxed[up.At]) || !up.Local && up.At >= len(outer.Ups) {
				return fmt.Sprint("Ups of function ", i)
			}
		}
	}
	return ""
}

// toldWrongProto tells what function n of p has that it may not have, or nothing.
func toldWrongProto(p api.Program, n int) string {
	if n < 0 || n >= len(p.Protos) {
		return "none"
	}
	f := p.Protos[n]
	if f.Slots < 0 || f.Slots > 120 || f.Params < 0 || f.Params > f.Slots || len(f.Boxed) != f.Slots {
		return "slots"
	}
	if len(f.Ups) > 60 || len(f.Stmts) > 4096 || len(f.Exprs) > 4096 {
		return "how many"
	}
	place := func(i int) bool { return -1 <= i && i < len(f.Stmts) }
	if f.Start != -1 && len(f.Stmts) == 0 || len(f.Stmts) > 0 && f.Start < 0 || !place(f.Start) {
		return "Start"
	}
	used := make([]int, len(f.Exprs))
	for i, e := range f.Exprs {
		for _, k := range e.Kids {
			if k < 0 || k >= i {
				return fmt.Sprint("kids of expression ", i)
			}
			used[k]++
		}
		if !toldExpr(p, f, e) {
			return fmt.Sprint("expression ", i)
		}
	}
	for i, s := range f.Stmts {
		for _, e := range append(slices.Clone(s.Targets), s.Exprs...) {
			if e < 0 || e >= len(f.Exprs) || !toldValue(f.Exprs[e]) {
				return fmt.Sprint("expressions of statement ", i)
			}
			used[e]++
		}
		for _, slot := range s.Slots {
			if slot < 0 || slot >= f.Slots {
				return fmt.Sprint("slots of statement ", i)
			}
		}
		if !place(s.Next) || !place(s.Else) || s.Line < 1 || !toldStmt(f, s) {
			return fmt.Sprint("statement ", i)
		}
	}
	for i, count := range used {
		if count != 1 {
			return fmt.Sprint("expression ", i, " stands ", count, " times")
		}
	}
	return ""
}

func toldValue(e api.Expr) bool { return e.Kind != api.EItem && e.Kind != api.ENamed }

func toldExpr(p api.Program, f api.Proto, e api.Expr) bool {
	values, items := 0, 0
	for _, k := range e.Kids {
		if toldValue(f.Exprs[k]) {
			values++
		} else {
			items++
		}
	}
	n := func(count int) bool { return 0 <= e.N && e.N < int64(count) }
	only := func(count int) bool { return items == 0 && values == count }
	called := items == 0 && 1 <= values && values <= 201
	switch e.Kind {
	case api.ENil, api.ETrue, api.EFalse:
		return e.N == 0 && only(0)
	case api.EInt:
		return only(0)
	case api.EStr, api.EGlobal:
		return n(len(p.Strs)) && only(0)
	case api.EDots:
		return f.More && e.N == 0 && only(0)
	case api.EFunc:
		return n(len(p.Protos)) && only(0)
	case api.ESlot:
		return n(f.Slots) && only(0)
	case api.EUp:
		return n(len(f.Ups)) && only(0)
	case api.EIndex, api.EAnd, api.EOr, api.ENamed:
		return e.N == 0 && only(2)
	case api.ECall:
		return e.N == 0 && called
	case api.EMethod:
		return n(len(p.Strs)) && called
	case api.EBin:
		return 1 <= e.N && e.N <= 17 && only(2)
	case api.EUn:
		return 18 <= e.N && e.N <= 21 && only(1)
	case api.ETable:
		return e.N == 0 && values == 0 && items <= 4096
	case api.EItem, api.EParen:
		return e.N == 0 && only(1)
	}
	return false
}

func toldStmt(f api.Proto, s api.Stmt) bool {
	slots, exprs, targets := len(s.Slots), len(s.Exprs), len(s.Targets)
	if slots > 200 || exprs > 200 || targets > 200 || s.Kind != api.SAssign && targets > 0 {
		return false
	}
	if !forks(s.Kind) && s.Else != 0 {
		return false
	}
	kind := func(kinds ...api.ExprKind) bool {
		return exprs == 1 && slices.Contains(kinds, f.Exprs[s.Exprs[0]].Kind)
	}
	hidden := slots > 0 && s.Slots[0]+2 < f.Slots
	switch s.Kind {
	case api.SLocal:
		return slots >= 1
	case api.SAssign:
		for _, t := range s.Targets {
			if !slices.Contains([]api.ExprKind{api.ESlot, api.EUp, api.EGlobal, api.EIndex}, f.Exprs[t].Kind) {
				return false
			}
		}
		return targets >= 1 && exprs >= 1 && slots == 0
	case api.SCall:
		return slots == 0 && kind(api.ECall, api.EMethod)
	case api.STest:
		return slots == 0 && exprs == 1
	case api.SForPrep:
		return slots == 1 && hidden && (exprs == 2 || exprs == 3)
	case api.SForLoop:
		return slots == 2 && hidden && exprs == 0
	case api.SInPrep:
		return slots == 1 && hidden && exprs >= 1
	case api.SInLoop:
		return slots >= 2 && hidden && exprs == 0
	case api.SFunc:
		return slots == 1 && kind(api.EFunc)
	case api.SReturn:
		return slots == 0 && s.Next == -1
	case api.SJump:
		return slots == 0 && exprs == 0
	}
	return false
}
