package maps_test

import (
	"fmt"
	"math/rand"
	"reflect"
	"slices"
	"strings"
	"testing"

	"twinstep/api"
	"twinstep/flow"
	"twinstep/gen"
	"twinstep/parse"
	"twinstep/right"
)

// build_test.go: programs of texts and by hand, and codes by hand.

// program answers the program of a text that has no fault.
func program(t *testing.T, text string) api.Program {
	t.Helper()
	s, fault := parse.Parse(text)
	if fault != (api.Fault{}) {
		t.Fatalf("%s: %v", text, fault)
	}
	p, fault := flow.Resolve(s)
	if fault != (api.Fault{}) {
		t.Fatalf("%s: %v", text, fault)
	}
	return p
}

// bare answers a program of one function of one slot, with so many statements, the last of which has all of so many expressions. Codes of it may be long: each statement has 200 Slots.
func bare(t *testing.T, stmts, exprs int) api.Program {
	t.Helper()
	f := api.Proto{More: true, Slots: 1, Boxed: []bool{false}}
	for range stmts {
		f.Stmts = append(f.Stmts, api.Stmt{Kind: api.SLocal, Slots: make([]int, 200), Next: -1, Line: 1})
	}
	for i := range exprs {
		e := api.Expr{Kind: api.EParen, Kids: []int{i - 1}}
		if i == 0 {
			e = api.Expr{Kind: api.ENil}
		}
		f.Exprs = append(f.Exprs, e)
	}
	if exprs > 0 {
		f.Stmts[stmts-1].Exprs = []int{exprs - 1}
	}
	if stmts == 0 {
		f.Start = -1
	}
	p := api.Program{Strs: []string{"a"}, Protos: []api.Proto{f}}
	if !right.Right(p) {
		t.Fatalf("a program of %d statements and %d expressions is not right", stmts, exprs)
	}
	return p
}

var (
	on   = []api.Ins{{Op: api.IGo, A: -1}}
	back = []api.Ins{{Op: api.IReturn}}
)

// plain answers so many instructions that go on behind themselves.
func plain(count int) []api.Ins { return slices.Repeat([]api.Ins{{Op: api.INil, A: 1}}, count) }

// fork answers a test that goes on at b or c, places of its list.
func fork(b, c int) []api.Ins { return []api.Ins{{Op: api.ITest, A: 1, B: b, C: c}} }

// list answers a list of parts.
func list(parts ...[]api.Ins) []api.Ins { return slices.Concat(parts...) }

func isTest(in api.Ins) bool {
	return in.Op == api.ITest || in.Op == api.INilTest || in.Op == api.IIntTest || in.Op == api.IForStep
}

func isEnd(in api.Ins) bool { return in.Op == api.IGo || in.Op == api.IReturn }

// code answers a code of these lists, whose tests' places are moved to where the lists begin.
func code(lists ...[]api.Ins) api.Code {
	c := api.Code{Regs: 8}
	for _, l := range lists {
		begin := len(c.Ins)
		c.Start = append(c.Start, begin)
		for _, in := range l {
			if isTest(in) {
				in.B += begin
				in.C += begin
			}
			c.Ins = append(c.Ins, in)
		}
	}
	return c
}

// made answers the code that gen makes of a function.
func made(t *testing.T, p api.Program, proto int) api.Code {
	t.Helper()
	c, err := gen.Gen(p, proto)
	if err != api.OK {
		t.Fatal(err)
	}
	return c
}

// copied answers c in memory of its own.
func copied(c api.Code) api.Code {
	return api.Code{Regs: c.Regs, Ins: slices.Clone(c.Ins), Start: slices.Clone(c.Start)}
}

// shown tells values with all that they have, the room behind their lists too.
func shown(values ...any) string {
	var out strings.Builder
	var show func(v reflect.Value)
	show = func(v reflect.Value) {
		switch v.Kind() {
		case reflect.Slice:
			fmt.Fprint(&out, v.Len(), "[")
			for i := range v.Cap() {
				show(v.Slice(0, v.Cap()).Index(i))
			}
			out.WriteString("]")
		case reflect.Struct:
			for i := range v.NumField() {
				show(v.Field(i))
			}
		default:
			fmt.Fprint(&out, v.Interface(), ";")
		}
	}
	for _, v := range values {
		show(reflect.ValueOf(v))
	}
	return out.String()
}

// short tells what begins a long text.
func short(s string) string { return s[:min(len(s), 800)] }

// texts answers texts of every rule of the language.
func texts() []string {
	return []string{
		"", ";;", "do end", "do local a = 1 f(a) end", "::l::", "goto l ::l:: f()", "::l:: f() goto l", "return", "return 1, nil, true, false, 's', ...",
		"local a", "local a, b, c", "local a, b = 1", "local a, b = ...", "local a = f(), 2", "local a, b, c = 1, f()", "local a, b = (f())", "a = 1", "local a, b = 1, 2 a, b = b, a",
		"a.b, c[1], d = f()", "local t t.x.y, t[t] = ..., 5", "f()", "f(1, ...)", "f(g(), h())", "f 's'", "f {}", "o:m()", "o.p:m(1, g())", "f()()(1):m 's'", "(f or g)()",
		"while a do end", "while f() do if g() then break end h() end", "repeat until a", "repeat local a = f() until a == g(function() return a end)",
		"if a then end", "if a then f() else g() end", "if a then f() elseif b then g() elseif c then else h() end", "if a and f() or not b then return end f()",
		"for i = 1, 9 do end", "for i = f(), g(), h() do k(i) end", "for i = 1, 9 do for j = i, 1, -1 do if j == i then break end l[j] = function() return i, j end end end",
		"for a in f do end", "for a, b, c in pairs(t) do f(a, b, c) end", "for a in f, g, h, k() do l = function() a = a .. 1 end end",
		"function f() end", "function a.b.c(x) return x end", "function a.b:c(...) return self, ... end", "local function f() return f end", "local function f(x) return f(x - 1) end return f(9)",
		"a = 1 + 2 - 3 * 4 // 5 % 6", "a = (b & 1 | c ~ 2) << 3 >> d", "a = b .. c .. 's'", "a = b == c, b ~= c, b < c, b <= c, b > c, b >= c", "a = -b, not b, #b, ~b",
		"a = b and c", "a = b or c", "a = b and c or d and (e or f) and g", "return a and f(), b or f(...)", "a = (...)", "a = ((b))",
		"t = {}", "t = {1, 2; 3, }", "t = {a = 1, [b] = c, d}", "t = {f(), f()}", "t = {..., ...}", "t = {(f())}", "t = {{}, {{1}}, x = {y = {}}}", "return {o:m()}, #{...}",
		"local a, b function f() a = b return function() b = a return f end end", "return function(a) return function(b) return function(...) return a + b, ... end end end",
		"local l = {} for i = 1, 3 do l[i] = function() i = i + 1 return i end end print(l[1](), l[1](), l[2]())",
		"local c = coroutine.create(function(a, b) local d = coroutine.yield(a + b) error(d) end) print(coroutine.resume(c, 1, 2))",
		"local t = setmetatable({}, {__index = function(t, k) return k end, __lt = function() return 1 end}) print(t.q, t < 5, #t)",
		"for i = 1, 5 do if i == 3 then goto next end if i == 5 then break end print(i) ::next:: end repeat local z = 1 until z == 1",
	}
}

// together answers a text of some of the texts, each in a block of its own, by chance.
func together(g *rand.Rand) string {
	all := texts()
	blocks := []string{
		"do %s end", "while a do %s end", "repeat %s until b", "if a then %s end", "if a then %s else f() end", "for i = 1, 2 do %s end", "for a in f do %s end",
		"function f(...) %s end", "local f, g = 1, function(a, ...) %s end", "a = {function(...) %s end, 1}", "local function f(...) %s end",
	}
	var out []string
	for range 1 + g.Intn(4) {
		text := all[g.Intn(len(all))]
		for range 1 + g.Intn(3) {
			text = fmt.Sprintf(blocks[g.Intn(len(blocks))], text)
		}
		out = append(out, text)
	}
	return strings.Join(out, "\n")
}
