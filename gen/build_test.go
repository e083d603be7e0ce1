package gen_test

import (
	"fmt"
	"slices"
	"strings"
	"testing"

	"twinstep/api"
	"twinstep/flow"
	"twinstep/parse"
	"twinstep/right"
)

// build_test.go: programs, put together by hand and of texts.

// part is an expression with its kids.
type part struct {
	kind  api.ExprKind
	n     int64
	parts []part
}

func of(k api.ExprKind, n int64, parts ...part) part { return part{k, n, parts} }
func num(n int64) part                               { return of(api.EInt, n) }
func null() part                                     { return of(api.ENil, 0) }
func dots() part                                     { return of(api.EDots, 0) }
func slot(n int64) part                              { return of(api.ESlot, n) }
func global(n int64) part                            { return of(api.EGlobal, n) }
func function(n int64) part                          { return of(api.EFunc, n) }
func call(parts ...part) part                        { return of(api.ECall, 0, parts...) }
func item(p part) part                               { return of(api.EItem, 0, p) }
func paren(p part) part                              { return of(api.EParen, 0, p) }
func times[T any](count int, one T) []T              { return slices.Repeat([]T{one}, count) }

// stat is a statement with its expressions.
type stat struct {
	api.Stmt
	targets, exprs []part
}

func stmt(k api.StmtKind) stat         { return stat{Stmt: api.Stmt{Kind: k, Line: 1}} }
func (s stat) slots(slots ...int) stat { s.Slots = slots; return s }
func (s stat) to(targets ...part) stat { s.targets = targets; return s }
func (s stat) by(exprs ...part) stat   { s.exprs = exprs; return s }
func (s stat) orElse(place int) stat   { s.Else = place; return s }
func returns(exprs ...part) stat       { return stmt(api.SReturn).by(exprs...) }
func jump() stat                       { return stmt(api.SJump) }
func boxed(slots ...bool) api.Proto    { return api.Proto{Slots: len(slots), Boxed: slots} }
func plain(slots int) api.Proto        { return boxed(make([]bool, slots)...) }
func root(f api.Proto) api.Proto       { f.More = true; return f }

func ups(f api.Proto, u ...api.Up) api.Proto { f.Ups = u; return f }
func local(at int) api.Up                    { return api.Up{Local: true, At: at} }
func outer(at int) api.Up                    { return api.Up{At: at} }

// lay answers f with these statements, each of which goes on at the next one; an expression stands behind its kids.
func lay(f api.Proto, stats ...stat) api.Proto {
	var put func(p part) int
	put = func(p part) int {
		e := api.Expr{Kind: p.kind, N: p.n}
		for _, kid := range p.parts {
			e.Kids = append(e.Kids, put(kid))
		}
		f.Exprs = append(f.Exprs, e)
		return len(f.Exprs) - 1
	}
	for i, s := range stats {
		for _, p := range s.targets {
			s.Targets = append(s.Targets, put(p))
		}
		for _, p := range s.exprs {
			s.Exprs = append(s.Exprs, put(p))
		}
		s.Next = i + 1
		if s.Kind == api.SReturn || s.Next == len(stats) {
			s.Next = -1
		}
		f.Stmts = append(f.Stmts, s.Stmt)
	}
	if len(stats) == 0 {
		f.Start = -1
	}
	return f
}

// alone answers a program of one function of so many slots and these statements, and two texts.
func alone(slots int, stats ...stat) api.Program {
	return api.Program{Strs: []string{"a", "b"}, Protos: []api.Proto{lay(root(plain(slots)), stats...)}}
}

// names tells whether some EFunc of parts, or in them, is of function n.
func names(parts []part, n int64) bool {
	return slices.ContainsFunc(parts, func(p part) bool { return p.kind == api.EFunc && p.n == n || names(p.parts, n) })
}

// host answers a program of four functions: 1 in 0, 2 in 1, 3 in 0. Function 1, which has 5 slots and 2 Ups, has these statements; only if they name no function 2, it has one more that does.
func host(stats ...stat) api.Program {
	if !slices.ContainsFunc(stats, func(s stat) bool { return names(s.exprs, 2) || names(s.targets, 2) }) {
		stats = append(slices.Clone(stats), returns(function(2)))
	}
	middle := ups(boxed(true, false, false, false, true), local(0), local(2))
	middle.Params = 1
	return api.Program{
		Strs: []string{"a", "b"},
		Protos: []api.Proto{
			lay(root(boxed(true, false, true)), returns(function(1), function(3))),
			lay(root(middle), stats...),
			lay(ups(plain(0), local(4), outer(1))),
			lay(plain(0)),
		},
	}
}

// copied answers p in memory of its own, the room behind its lists too.
func copied(p api.Program) api.Program {
	out := api.Program{Strs: whole(p.Strs), Protos: whole(p.Protos)}
	for i, f := range out.Protos {
		f.Boxed, f.Ups, f.Stmts, f.Exprs = whole(f.Boxed), whole(f.Ups), whole(f.Stmts), whole(f.Exprs)
		for k, s := range f.Stmts {
			f.Stmts[k].Slots, f.Stmts[k].Targets, f.Stmts[k].Exprs = whole(s.Slots), whole(s.Targets), whole(s.Exprs)
		}
		for k, e := range f.Exprs {
			f.Exprs[k].Kids = whole(e.Kids)
		}
		out.Protos[i] = f
	}
	return out
}

// copiedCode answers c in memory of its own.
func copiedCode(c api.Code) api.Code {
	return api.Code{Regs: c.Regs, Ins: whole(c.Ins), Start: whole(c.Start)}
}

// whole answers a copy of list with the room behind it.
func whole[T any](list []T) []T {
	return slices.Clone(list[:cap(list)])[:len(list):cap(list)]
}

// shown tells a program with all that it has, the room behind its lists of numbers too.
func shown(p api.Program) string {
	var out strings.Builder
	fmt.Fprintf(&out, "%q", p.Strs[:cap(p.Strs)])
	for _, f := range p.Protos {
		fmt.Fprint(&out, "\n", f.Params, f.More, f.Slots, f.Start, f.Boxed[:cap(f.Boxed)], f.Ups[:cap(f.Ups)], len(f.Boxed), len(f.Ups))
		for _, s := range f.Stmts {
			fmt.Fprint(&out, "; ", s.Kind, s.Next, s.Else, s.Line, s.Slots[:cap(s.Slots)], s.Targets[:cap(s.Targets)], s.Exprs[:cap(s.Exprs)], len(s.Slots), len(s.Targets), len(s.Exprs))
		}
		for _, e := range f.Exprs {
			fmt.Fprint(&out, ", ", e.Kind, e.N, e.Kids[:cap(e.Kids)], len(e.Kids))
		}
	}
	return out.String()
}

// shownCode tells a code with all that it has, the room behind its lists too.
func shownCode(c api.Code) string {
	return fmt.Sprint("Regs ", c.Regs, " Start ", len(c.Start), c.Start[:cap(c.Start)], " Ins ", len(c.Ins), c.Ins[:cap(c.Ins)])
}

// short tells a text shortly.
func short(s string) string {
	if len(s) > 900 {
		return s[:450] + " .. " + s[len(s)-450:]
	}
	return s
}

// program answers the program of a text that has no fault.
func program(t *testing.T, text string) api.Program {
	t.Helper()
	s, fault := parse.Parse(text)
	if fault == (api.Fault{}) {
		var p api.Program
		if p, fault = flow.Resolve(s); fault == (api.Fault{}) {
			return p
		}
	}
	t.Fatalf("%s: %v", short(text), fault)
	return api.Program{}
}

// rightly answers p, which is right.
func rightly(t *testing.T, p api.Program) api.Program {
	t.Helper()
	if !right.Right(p) {
		t.Fatal("a program of the test's own is not right: ", short(shown(p)))
	}
	return p
}

// texts answers texts of every rule of the language.
func texts() []string {
	return []string{
		"", ";", "do end", "::a::", "return", "return;", "return 1", "return nil, true, false, 7, 'x', ...", "do return x end x()",
		"local x", "local x, y, z", "local x = 1", "local x, y = 1, 2, f()", "local x = x local x = x", "x = 1", "x, y.z, t[1] = 1, 2", "local x x, y = y, x",
		"local x, y, z = f()", "local x, y, z = ...", "local x = ...", "local x = f(), ...", "local x, y, z = 1, f()", "local x, y = (f())", "x, y = ...", "x, y, z = 1, f(...)",
		"f()", "f(1, x, ...)", "f(..., 1)", "f(g(), h())", "f((g()))", "f 's'", "f {}", "o:m()", "o:m 's'", "o:m {1}", "o:m(1, f(), ...)", "a.b[c]:d(e).f(g)(h)", "a:b(c:d(), e:f())", "(f)()", "(f.g):h()",
		"while x do end", "while x do break end y()", "while true do local x = 1 if x then break end end", "repeat until x", "repeat local x = 1 until x == 1", "repeat break until f(function() return x end)",
		"if x then end", "if x then y() else z() end", "if x then elseif y then z() elseif z then else break_() end", "if x then return end y()", "if f() then end", "if ... then end",
		"for i = 1, 2 do end", "for i = 1, 2, 3 do print(i) break end x()", "for i = f(), g(), h() do end", "for i = 1, f() do end", "for i = 1, ... do end", "for i = 1, 3 do for j = i, 3 do l[i] = function() i = i + j return i end end end",
		"for k in pairs(t) do end", "for i, j, k in x, y, z, w do print(i, j, k) end", "for k, v in next, t do if k then goto next end print(v) ::next:: end", "for k in f, ... do end", "for k in f do g = function() return k end end",
		"function f() end", "function a.b.c(x) end", "function a.b:c(x, y, ...) return self, x, ... end", "local function f() return f end f()", "local function f(x, ...) return select('#', ...), ... end return f(1)",
		"goto a ::a::", "::a:: x() goto a", "do goto b x() ::b:: end", "for i = 1, 5 do if i == 3 then goto next end if i == 5 then break end print(i) ::next:: end", "goto a local x ::a::", "::a:: do goto a end", "while x do goto b end ::b:: y()",
		"x = -1 + 2 * 3 // 4 % 5", "x = a & b | c ~ d << e >> f", "x = a .. b .. c", "x = a == b ~= c < d <= e > f >= g", "x = not #-~a", "x = a and b or c and (d or e)", "x = a and (b and c) or (d or e) and f", "return a and f(), b or f(...)", "x = ((1))", "x = (...)",
		"x = {}", "x = {1, 2; 3}", "x = {[1] = 2, y = 3, z, ...}", "x = {{}, {{}}, f()}", "x = {..., ...}", "x = {f(), [g()] = h(), i()}", "x = {f(), y = 1}", "x = {(f())}", "x = function() end", "x = function(a, b, ...) return a, b, ... end",
		"return f()", "return f(), g()", "return (f())", "return f(), (g())", "return o:m()", "return {}, ...", "return a.b, -c",
		"local a function f() return a end", "local a, b local function f() local c = a return function() b = c return a, c, f end end", "local a function f() a = 1 a, b = a end",
		"local function f() return function() return function() return f end end end", "return function(x) return function(y) return function(z) return x + y + z end end end",
		"do local x = 1 g = function() x = x + 1 return x end end for i = 1, 2 do print(g(), i) end",
		"local t = setmetatable({}, {__index = function(t, k) return k end, __call = function(self, x) return x end}) print(t.q, t(8), #t)",
		"local c = coroutine.create(function(a, b) local d = coroutine.yield(a + b) error(d) end) print(coroutine.resume(c, 1, 2))",
		"t[i], i, t[j], t[i].x = i + 1, f(), g()", "a.b.c, d[e] = f(...)", "x, y, z = f(), g()", "x = 1, f()", "x, y = 1, 2, f(), ...",
	}
}

// numbered answers s with each number from 1 on, up to count, behind it.
func numbered(s string, count int) string {
	var out []string
	for i := range count {
		out = append(out, fmt.Sprint(s, i+1))
	}
	return strings.Join(out, ",")
}

// exprsOfAll answers an expression of each kind, right in a host.
func exprsOfAll() []part {
	one, parts := num(1), []part{item(num(2)), of(api.ENamed, 0, of(api.EStr, 0), num(3)), item(dots())}
	return []part{
		null(), of(api.ETrue, 0), of(api.EFalse, 0), one, of(api.EStr, 1), dots(), function(2), slot(4),
		of(api.EUp, 1), global(0), of(api.EIndex, 0, slot(1), one), call(slot(0), one), of(api.EMethod, 1, slot(3), one),
		of(api.EBin, 1, slot(1), one), of(api.EAnd, 0, slot(0), one), of(api.EOr, 0, slot(0), one), of(api.EUn, 18, slot(2)),
		of(api.ETable, 0, parts...), paren(dots()),
	}
}

// stmtsOfAll answers a statement of each kind, right in a host, with these expressions where such may stand.
func stmtsOfAll(exprs ...part) []stat {
	out := []stat{
		stmt(api.SLocal).slots(0, 1),
		stmt(api.SLocal).slots(0, 1).by(exprs...),
		stmt(api.SLocal).slots(4, 3, 2, 1, 0).by(exprs...),
		stmt(api.SAssign).to(slot(0), of(api.EUp, 0), global(1), of(api.EIndex, 0, slot(1), slot(4)), slot(3)).by(exprs...),
		stmt(api.SCall).by(call(exprs...)),
		stmt(api.SCall).by(of(api.EMethod, 1, exprs...)),
		stmt(api.STest).by(exprs[0]).orElse(-1),
		stmt(api.STest).by(exprs[0]).orElse(1),
		stmt(api.SForLoop).slots(1, 4).orElse(-1),
		stmt(api.SForLoop).slots(0, 4).orElse(1),
		stmt(api.SForLoop).slots(2, 2).orElse(0),
		stmt(api.SForLoop).slots(2, 3).orElse(0),
		stmt(api.SForLoop).slots(0, 2).orElse(0),
		stmt(api.SInPrep).slots(2).by(exprs...),
		stmt(api.SInLoop).slots(1, 4, 0).orElse(-1),
		stmt(api.SInLoop).slots(0, 4).orElse(1),
		stmt(api.SInLoop).slots(2, 4, 3, 2, 1, 0).orElse(0),
		stmt(api.SFunc).slots(0).by(function(2)),
		stmt(api.SFunc).slots(3).by(function(2)),
		returns(exprs...),
		returns(),
		jump(),
	}
	for _, first := range []int{0, 2} {
		out = append(out, stmt(api.SForPrep).slots(first).by(num(1), exprs[0]), stmt(api.SForPrep).slots(first).by(slot(1), slot(3), exprs[0]))
	}
	return out
}
