package gen_test

import (
	"fmt"
	"math"
	"strings"
	"testing"

	"twinstep/api"
	"twinstep/gen"
)

// gen_test.go: P10.2 and P10.3 by hand.

// Chapter 10, examples: lists that do what the statements do.
func TestExamples(t *testing.T) {
	for text, c := range map[string]api.Code{
		"local x = 1 + y": {Regs: 3, Start: []int{0}, Ins: []api.Ins{
			{Op: api.IInt, A: 1, N: 1}, {Op: api.IGlobal, A: 2}, {Op: api.IBin, A: 1, B: 1, C: 2, N: int64(api.Add)},
			{Op: api.IFresh, A: 0, B: 1}, {Op: api.IGo, A: -1},
		}},
		"return f(...)": {Regs: 1, Start: []int{0}, Ins: []api.Ins{
			{Op: api.IGlobal}, {Op: api.IDots, C: -1}, {Op: api.ICall, C: -1, N: 1}, {Op: api.IReturn, N: 1},
		}},
		"while a do end": {Regs: 1, Start: []int{0, 4}, Ins: []api.Ins{
			{Op: api.IGlobal}, {Op: api.ITest, B: 2, C: 3}, {Op: api.IGo, A: 1}, {Op: api.IGo, A: -1}, {Op: api.IGo, A: 0},
		}},
	} {
		p := program(t, text)
		tell(t, text, p, 0, c, true)
		alikeBy(t, text, p, 0, c, 50, map[string]int{})
		alike(t, text, p, 50)
	}
}

// isNone asks that Gen refuses to make a code.
func isNone(t *testing.T, what string, p api.Program, proto int) {
	t.Helper()
	c, err := gen.Gen(p, proto)
	if err != api.ErrProgram || c.Regs != 0 || len(c.Ins) != 0 || len(c.Start) != 0 {
		t.Errorf("%s: Gen = %v, %v", what, c, err)
	}
}

// P10.2: programs that are not right, and functions that there are not.
func TestErrProgram(t *testing.T) {
	isNone(t, "nothing", api.Program{}, 0)
	good := host(stmt(api.SLocal).slots(0).by(num(1)))
	for _, proto := range []int{math.MinInt, -200, -1, len(good.Protos), len(good.Protos) + 1, 200, math.MaxInt} {
		isNone(t, fmt.Sprint("function ", proto), good, proto)
	}
	for what, spoil := range map[string]func(p *api.Program){
		"a slot":               func(p *api.Program) { p.Protos[1].Stmts[0].Slots[0] = 5 },
		"a slot below 0":       func(p *api.Program) { p.Protos[1].Stmts[0].Slots[0] = -1 },
		"an expression":        func(p *api.Program) { p.Protos[1].Stmts[0].Exprs = []int{9} },
		"no slot":              func(p *api.Program) { p.Protos[1].Stmts[0].Slots = nil },
		"a kind":               func(p *api.Program) { p.Protos[1].Stmts[0].Kind = 12 },
		"kind 0":               func(p *api.Program) { p.Protos[1].Stmts[0].Kind = 0 },
		"an expression's kind": func(p *api.Program) { p.Protos[1].Exprs[0].Kind = api.EItem },
		"Next":                 func(p *api.Program) { p.Protos[1].Stmts[0].Next = -2 },
		"Else":                 func(p *api.Program) { p.Protos[1].Stmts[0].Else = 1 },
		"a text twice":         func(p *api.Program) { p.Strs[1] = p.Strs[0] },
		"a function twice":     func(p *api.Program) { p.Protos[0].Exprs[1].N = 1 },
		"an Up":                func(p *api.Program) { p.Protos[2].Ups[0].At = 3 },
		"another function":     func(p *api.Program) { p.Protos[3].Start = 0 },
		"Slots below 0":        func(p *api.Program) { p.Protos[3].Slots = -1 },
	} {
		p := copied(good)
		spoil(&p)
		for proto := -1; proto < 5; proto++ {
			isNone(t, what, p, proto)
		}
	}
	made(t, "what was spoilt", good, 1)
}

// P10.2: R6: a function without statements; lists that are empty and such that are not there.
func TestLeast(t *testing.T) {
	for _, p := range []api.Program{alone(0), alone(7), {Strs: []string{}, Protos: []api.Proto{{More: true, Start: -1, Boxed: []bool{}, Stmts: []api.Stmt{}, Exprs: []api.Expr{}, Ups: []api.Up{}}}}} {
		c := made(t, "no statement", rightly(t, p), 0)
		if len(c.Ins) != 0 || len(c.Start) != 0 {
			t.Error(c)
		}
	}
}

// traced does a statement both ways, in a world in which variables and dots are t1, t2 .. (but slots that are handed in) and each answer is t101, t102 .., and tells what was asked, and what it came to.
func traced(t *testing.T, what string, p api.Program, proto, stmt int, slots ...api.Value) string {
	t.Helper()
	alike(t, what, p, 30)
	c, _ := gen.Gen(p, proto)
	told := func(do func(w *world) outcome) string {
		w := newWorld(p, proto, nil)
		w.made = 100
		copy(w.slots, slots)
		return w.told(w.do(func() outcome { return do(w) }))
	}
	tree := told(func(w *world) outcome { return w.stmt(p.Protos[proto].Stmts[stmt]) })
	list := told(func(w *world) outcome { return w.run(c, stmt) })
	if tree != list {
		t.Errorf("%s: by the statement %s, by the list %s", what, tree, list)
	}
	return list
}

// told tells in a line what was asked, and how it ends, with variables of slots and Ups.
func (w *world) told(out outcome) string {
	if out.fault != "" {
		return strings.Join(append(w.log, "throws "+out.fault), "; ")
	}
	end, list := fmt.Sprint("on at ", out.next), w.slots
	if out.ends {
		end, list = "returns", out.vals
	}
	for _, v := range list {
		end += " " + nameOf(v)
		if v.Kind == api.KCell {
			end += "=" + nameOf(w.cells[v.N-1])
		}
	}
	for n := range w.ups {
		end += " up " + nameOf(w.up(int64(n)))
	}
	return strings.Join(append(w.log, end), "; ")
}

// orders are texts, each with what its first statement asks, in which order, with which values.
var orders = map[string]string{
	// Calls, the open list at their end and in their midst.
	"f()":                "global f; call t101; on at -1",
	"f(a, b, g())":       "global f; global a; global b; global g; call t104; call t101 t102 t103 t105 t106; on at -1",
	"f(g(), h())":        "global f; global g; call t102; global h; call t105; call t101 t103 t106 t107; on at -1",
	"f((g()))":           "global f; global g; call t102; call t101 t103; on at -1",
	"f(g(h(...)))":       "global f; global g; global h; call t103 t1 t2; call t102 t104 t105; call t101 t106 t107; on at -1",
	"f(..., 5, ...)":     "global f; call t101 t1 5 t1 t2; on at -1",
	"f(...)(nil)(true)":  "global f; call t101 t1 t2; call t102 nil; call t104 true; on at -1",
	"f(...)":             "global f; call t101 t1 t2; on at -1",
	"f'x'":               "global f; str x; call t101 s1; on at -1",
	"f(-a, not false)":   "global f; global a; op 18 t102; op 19 false; call t101 t103 t104; on at -1",
	"f(a + b * c, d..e)": "global f; global a; global b; global c; op 3 t103 t104; op 1 t102 t105; global d; global e; op 11 t107 t108; call t101 t106 t109; on at -1",
	"f(a < b, c > d)":    "global f; global a; global b; op 14 t102 t103; global c; global d; op 16 t105 t106; call t101 t104 t107; on at -1",
	"f(a[b][c].d)":       "global f; global a; global b; index t102 t103; global c; index t104 t105; str d; index t106 s4; call t101 t107; on at -1",
	// Methods.
	"o:m()":              "global o; method m t101; call t102 t101; on at -1",
	"o:m(x, ...)":        "global o; method m t101; global x; call t102 t101 t103 t1 t2; on at -1",
	"o.p:m(o:n())":       "global o; str p; index t101 s2; method m t102; global o; method n t104; call t105 t104; call t103 t102 t106 t107; on at -1",
	"f():m():n()":        "global f; call t101; method m t102; call t104 t102; method n t105; call t107 t105; on at -1",
	"f(o:m(), o:m())":    "global f; global o; method m t102; call t103 t102; global o; method m t106; call t107 t106; call t101 t104 t108 t109; on at -1",
	"return o:m(1), 2":   "global o; method m t101; call t102 t101 1; returns t103 2",
	"return ('a'):m(1)":  "str a; method m s1; call t101 s1 1; returns t102 t103",
	"return (o:m(1))":    "global o; method m t101; call t102 t101 1; returns t103",
	"local x = o:m(...)": "global o; method m t101; call t102 t101 t2 t3; on at -1 t103",
	// And, or.
	"x = nil and f()":               "set global x nil; on at -1",
	"x = false and f()":             "set global x false; on at -1",
	"x = 0 and f()":                 "global f; call t101; set global x t102; on at -1",
	"x = nil or f()":                "global f; call t101; set global x t102; on at -1",
	"x = false or nil":              "set global x nil; on at -1",
	"x = nil or false":              "set global x false; on at -1",
	"x = 0 or f()":                  "set global x 0; on at -1",
	"x = nil and f() or g()":        "global g; call t101; set global x t102; on at -1",
	"x = 1 and f() or g()":          "global f; call t101; set global x t102; on at -1",
	"x = (nil or 1) and (2 or f())": "set global x 2; on at -1",
	"x = nil and f() and g()":       "set global x nil; on at -1",
	"x = 1 and nil and g()":         "set global x nil; on at -1",
	"return nil or f()":             "global f; call t101; returns t102",
	"f(1 and ..., 2 or g())":        "global f; call t101 t1 2; on at -1",
	// Assignments.
	"x = 1":                         "set global x 1; on at -1",
	"x, y, z = f()":                 "global f; call t101; set global x t102; set global y t103; set global z nil; on at -1",
	"x, y = 1, f()":                 "global f; call t101; set global x 1; set global y t102; on at -1",
	"x, y = f(), 1":                 "global f; call t101; set global x t102; set global y 1; on at -1",
	"x, y = (...)":                  "set global x t1; set global y nil; on at -1",
	"x = f(), g(), h":               "global f; call t101; global g; call t104; global h; set global x t102; on at -1",
	"x = 1, f()":                    "global f; call t101; set global x 1; on at -1",
	"a[i], b.x, c = f(), g()":       "global a; global i; global b; str x; global f; call t104; global g; call t107; set index t101 t102 t105; set index t103 s3 t108; set global c t109; on at -1",
	"f().x, y, g().z = ...":         "global f; call t101; str x; global g; call t104; str z; set index t102 s1 t1; set global y t2; set index t105 s4 nil; on at -1",
	"x, x = 1, 2":                   "set global x 1; set global x 2; on at -1",
	"x = function() end":            "function 1; set global x f101; on at -1",
	"x, y = 'a', function() end, z": "str a; function 1; global z; set global x s2; set global y f101; on at -1",
	// Tables.
	"t = {}":                             "table; set global t t101; on at -1",
	"t = {f(), k = g(), [h()] = 1, i()}": "table; global f; call t102; part t101 1 t103; str k; global g; call t105; part t101 s2 t106; global h; call t108; part t101 t109 1; global i; call t111; part t101 2 t112; part t101 3 t113; set global t t101; on at -1",
	"t = {..., nil, ...}":                "table; part t101 1 t1; part t101 3 t1; part t101 4 t2; set global t t101; on at -1",
	"t = {f(), k = 1}":                   "table; global f; call t102; part t101 1 t103; str k; part t101 s2 1; set global t t101; on at -1",
	"t = {(f())}":                        "table; global f; call t102; part t101 1 t103; set global t t101; on at -1",
	"t = {{...}, {1}, {}}":               "table; table; part t102 1 t1; part t102 2 t2; part t101 1 t102; table; part t103 1 1; part t101 2 t103; table; part t101 3 t104; set global t t101; on at -1",
	"t = {f(1, g()), 2; o:m()}":          "table; global f; global g; call t103; call t102 1 t104 t105; part t101 1 t106; part t101 2 2; global o; method m t108; call t109 t108; part t101 3 t110; part t101 4 t111; set global t t101; on at -1",
	"t = {[a] = nil, [nil] = f()}":       "table; global a; global f; call t103; throws index is nil",
	"t = {[f()] = g()}":                  "table; global f; call t102; global g; call t105; part t101 t103 t106; set global t t101; on at -1",
	"f{x = 1, y = {z = ...}}":            "global f; table; str x; part t102 s1 1; str y; table; str z; part t103 s3 t1; part t102 s2 t103; call t101 t102; on at -1",
	"t = {1 and ..., ... or 2}":          "table; part t101 1 t1; part t101 2 t1; set global t t101; on at -1",
	"return {...}, {}":                   "table; part t101 1 t1; part t101 2 t2; table; returns t101 t102",
	"return #{f()}":                      "table; global f; call t102; part t101 1 t103; part t101 2 t104; op 20 t101; returns t105",
	// Ends, variables, tests and loops.
	"return":                                          "returns",
	"return 1, nil, ...":                              "returns 1 nil t1 t2",
	"return ..., 1":                                   "returns t1 1",
	"return f(), g()":                                 "global f; call t101; global g; call t104; returns t102 t105 t106",
	"return (f())":                                    "global f; call t101; returns t102",
	"return 'a', a, 'b'":                              "str a; global a; str b; returns s0 t101 s1",
	"local x, y, z = f()":                             "global f; call t101; on at -1 t102 t103 nil",
	"local x, y, z = 1, ...":                          "on at -1 1 t4 t5",
	"local x, y":                                      "on at -1 nil nil",
	"local x, y = (f())":                              "global f; call t101; on at -1 t102 nil",
	"local x = f(), g(), 'a'":                         "global f; call t101; global g; call t104; str a; on at -1 t102",
	"local x = 1, ...":                                "on at -1 1",
	"local x = ..., f()":                              "global f; call t101; on at -1 t2",
	"local x = 1 f = function() x = 1 end":            "cell 2 1; on at 1 c2=1",
	"local x, y f = function() y = x end":             "cell 3 nil; cell 4 nil; on at 1 c3=nil c4=nil",
	"local function f() f() end":                      "cell 2 nil; function 1 c2; on at -1 c2=f101",
	"local function f() return g() end":               "function 1; on at -1 f101",
	"if a then x() elseif b then y() end":             "global a; on at 1",
	"if nil then x() else y() end":                    "on at 3",
	"if f(...) then x() end":                          "global f; call t101 t1 t2; on at 1",
	"while 1 and false do x() end":                    "on at -1",
	"goto a x() ::a:: y()":                            "on at 2",
	"for i = 1, 9 do end":                             "on at 1 1 8 1 t4",
	"for i = 9, 1, -3 do end":                         "op 18 3; throws step is no number",
	"for i = 2, 1 do end":                             "on at 1 nil 0 1 t4",
	"for i = 1, 2, 0 do end":                          "throws step is zero",
	"for i = f(), g(), h() do end":                    "global f; call t101; global g; call t104; global h; call t107; throws from is no number",
	"for i = 1, nil, 0 do end":                        "throws limit is no number",
	"for i = 1, 2, nil do end":                        "throws step is no number",
	"for i = 1, f() do end":                           "global f; call t101; throws limit is no number",
	"for i = 3, 5 do f = function() return i end end": "on at 1 3 2 1 c1=t4",
	"for a, b in f() do end":                          "global f; call t101; on at 1 t102 t103 nil t4 t5",
	"for a in f, ... do end":                          "global f; on at 1 t101 t5 t6 t4",
	"for a in f, g, h, i() do end":                    "global f; global g; global h; global i; call t104; on at 1 t101 t102 t103 t4",
	"for a in nil do end":                             "on at 1 nil nil nil t4",
}

// P10.2: what is asked, in which order, with which values.
func TestOrder(t *testing.T) {
	for text, want := range orders {
		if got := traced(t, text, program(t, text), 0, 0); got != want {
			t.Errorf("%s:\n%s, not\n%s", text, got, want)
		}
	}
}

func ints(ns ...int64) []api.Value {
	var out []api.Value
	for _, n := range ns {
		out = append(out, intOf(n))
	}
	return out
}

// later are statements of texts, with slots' values ahead of them and what each comes to.
var later = []struct {
	text  string
	proto int
	stmt  int
	slots []api.Value
	want  string
}{
	// The for of numbers: its hidden slots are 0 to 2, its variable 3.
	{"for i = 1, 9 do end", 0, 1, ints(5, 3, 2), "on at 2 7 2 2 5"},
	{"for i = 1, 9 do end", 0, 1, ints(5, 3, -2), "on at 2 3 2 -2 5"},
	{"for i = 1, 9 do end", 0, 1, ints(5, 1, 2), "on at 2 7 0 2 5"},
	{"for i = 1, 9 do end", 0, 1, ints(5, 0, 2), "on at 2 nil 0 2 5"},
	{"for i = 1, 9 do end", 0, 1, []api.Value{intOf(5), {}, intOf(2)}, "on at 2 nil nil 2 5"},
	{"for i = 1, 9 do end", 0, 1, []api.Value{{}, intOf(3), intOf(2)}, "on at -1 nil 3 2 t4"},
	{"for i = 1, 9 do end", 0, 1, []api.Value{{Kind: api.KTable, N: 9}, intOf(3), intOf(2)}, "on at -1 t9 3 2 t4"},
	{"for i = 1, 9 do end", 0, 1, []api.Value{{Kind: api.KTrue}, intOf(0), intOf(2)}, "on at -1 true 0 2 t4"},
	{"for i = 1, 9 do end", 0, 1, ints(math.MaxInt64, 1, 1), fmt.Sprint("on at 2 ", math.MinInt64, " 0 1 ", math.MaxInt64)},
	{"for i = 1, 9 do f(i) end", 0, 2, nil, "global f; call t101 t4; on at 3 t1 t2 t3 t4"},
	{"for i = 1, 9 do end", 0, 2, nil, "on at 1 t1 t2 t3 t4"},
	{"for i = 1, 2 do g = function() i = i + 1 end end", 0, 1, ints(5, 3, 2), "cell 2 5; on at 2 7 2 2 c2=5"},
	{"for i = 1, 2 do g = function() i = i + 1 end end", 0, 2, nil, "function 1 c1; set global g f101; on at 3 t1 t2 t3 c1=t4"},
	// The for of a function.
	{"for a in f do end", 0, 1, nil, "call t1 t2 t3; on at 2 t1 t2 t101 t101"},
	{"for a, b in f do end", 0, 1, nil, "call t1 t2 t3; on at 2 t1 t2 t101 t101 t102"},
	{"for a, b, c, d in f do end", 0, 1, nil, "call t1 t2 t3; on at 2 t1 t2 t101 t101 t102 nil nil"},
	{"for a in f do g = function() return a end end", 0, 1, nil, "call t1 t2 t3; cell 2 t101; on at 2 t1 t2 t101 c2=t101"},
	// Variables.
	{"local x, y = 1, 2 x, y = y, x", 0, 1, nil, "on at -1 t2 t1"},
	{"local x = 1 local x = x", 0, 1, nil, "on at -1 t1 t1"},
	{"local t, i t[i], i, t = 1, 2, 3", 0, 1, nil, "set index t1 t2 1; on at -1 3 2"},
	{"local t, i i, t[i], t = 1, i, f()", 0, 1, nil, "global f; call t101; set index t1 t2 t2; on at -1 t102 1"},
	{"local x f(x, g(), x)", 0, 1, nil, "global f; global g; call t102; call t101 t1 t103 t1; on at -1 t1"},
	{"local x x, y, x = 1, 2", 0, 1, nil, "set global y 2; on at -1 nil"},
	{"local x g = function() return x end x = 5", 0, 2, nil, "on at -1 c1=5"},
	{"local x g = function() return x end local y = x", 0, 2, nil, "on at -1 c1=t1 t1"},
	{"do local x g = function() return x end end local y = 1", 0, 2, nil, "cell 2 1; on at -1 c2=1"},
	{"local a local function f() return a, f end", 0, 1, nil, "cell 3 nil; function 1 c1 c3; on at -1 c1=t1 c3=f101"},
	{"repeat local z = 1 until z == 1", 0, 1, nil, "op 12 t1 1; on at -1 t1"},
	{"repeat local z until z", 0, 1, []api.Value{{}}, "on at 2 nil"},
	{"repeat local z until z", 0, 1, []api.Value{{Kind: api.KFalse}}, "on at 2 false"},
	{"repeat local z until z", 0, 1, ints(0), "on at -1 0"},
	{"if x then return end y()", 0, 2, nil, "global y; call t101; on at -1"},
	// Other functions: 1 is the first one in the text.
	{"local a function f() a = a + 1 return a end", 1, 0, nil, "op 1 t1 1; on at 1 up t101"},
	{"local a function f() a = a + 1 return a end", 1, 1, nil, "returns t1 up t1"},
	{"local a, b function f() a, b, x = b, a, a end", 1, 0, nil, "set global x t1; on at -1 up t2 up t1"},
	{"local a function f(x) return function() return a, x end end", 1, 0, nil, "function 2 c1 c2; returns f101 up t1"},
	{"function f(x, ...) local y = ... return y, x, ... end", 1, 0, nil, "on at 1 t1 t3"},
	{"function f(x, ...) local y = ... return y, x, ... end", 1, 1, nil, "returns t2 t1 t3 t4"},
	{"function o:m(x) self.x = x end", 1, 0, nil, "str x; set index t1 s2 t2; on at -1 t1 t2"},
}

// P10.2: what statements ask, with these slots.
func TestLater(t *testing.T) {
	for _, row := range later {
		if got := traced(t, row.text, program(t, row.text), row.proto, row.stmt, row.slots...); got != row.want {
			t.Errorf("%s, function %d, statement %d:\n%s, not\n%s", row.text, row.proto, row.stmt, got, row.want)
		}
	}
}

// byHand are statements that no text tells: slots that are named twice, a loop's variables that are its hidden ones.
var byHand = []struct {
	what  string
	boxed []bool
	s     stat
	slots []api.Value
	want  string
}{
	{"the index is the variable", make([]bool, 3), stmt(api.SForLoop).slots(0, 0).orElse(-1), ints(5, 3, 2), "on at 1 7 2 2"},
	{"the rounds are", make([]bool, 3), stmt(api.SForLoop).slots(0, 1).orElse(-1), ints(5, 3, 2), "on at 1 7 2 2"},
	{"the rounds are, the last one", make([]bool, 3), stmt(api.SForLoop).slots(0, 1).orElse(-1), ints(5, 0, 2), "on at 1 nil 5 2"},
	{"the step is", make([]bool, 3), stmt(api.SForLoop).slots(0, 2).orElse(-1), ints(5, 3, 2), "on at 1 7 2 5"},
	{"all are boxed", []bool{true, true, true, true}, stmt(api.SForLoop).slots(0, 3).orElse(-1), nil, "on at -1 c1=t1 c2=t2 c3=t3 c4=t4"},
	{"all are boxed, without cells", []bool{true, true, true, true}, stmt(api.SForLoop).slots(0, 3).orElse(-1), ints(5, 3, 2, 1), "on at -1 5 3 2 1"},
	{"the rounds are boxed, without a cell", []bool{false, true, false, true}, stmt(api.SForLoop).slots(0, 3).orElse(-1), []api.Value{intOf(5), {}, intOf(2), {}}, "cell 3 5; on at 1 nil nil 2 c3=5"},
	{"the variable is boxed", []bool{false, false, false, true}, stmt(api.SForLoop).slots(0, 3).orElse(-1), ints(5, 3, 2), "cell 2 5; on at 1 7 2 2 c2=5"},
	{"prepared boxes", []bool{true, true, true}, stmt(api.SForPrep).slots(0).by(num(9), num(1), num(-3)), nil, "cell 4 9; cell 5 2; cell 6 -3; on at 1 c4=9 c5=2 c6=-3"},
	{"prepared behind others", make([]bool, 5), stmt(api.SForPrep).slots(2).by(num(1), num(9), num(-3)), nil, "on at 1 t1 t2 nil 0 -3"},
	{"a call in the end of three", make([]bool, 3), stmt(api.SForPrep).slots(0).by(num(1), num(9), call(global(0))), nil, "global a; call t101; throws step is no number"},
	{"the control is a variable", make([]bool, 3), stmt(api.SInLoop).slots(0, 2, 1).orElse(-1), nil, "call t1 t2 t3; on at 1 t1 t102 t101"},
	{"the control is one twice", make([]bool, 3), stmt(api.SInLoop).slots(0, 2, 2).orElse(-1), nil, "call t1 t2 t3; on at 1 t1 t2 t102"},
	{"the function is one", make([]bool, 3), stmt(api.SInLoop).slots(0, 0).orElse(-1), nil, "call t1 t2 t3; on at 1 t101 t2 t101"},
	{"boxes of a for", []bool{true, true, true, true}, stmt(api.SInLoop).slots(0, 3, 3).orElse(-1), nil, "call t1 t2 t3; cell 5 t101; cell 6 t102; on at 1 c1=t1 c2=t2 c3=t101 c6=t102"},
	{"boxes of a for, one without a cell", []bool{true, true, true}, stmt(api.SInLoop).slots(0, 0).orElse(-1), make([]api.Value, 3), "call nil nil nil; cell 4 t101; cell 5 t101; on at 1 c5=t101 nil c4=t101"},
	{"prepared boxes of a for", []bool{true, true, true}, stmt(api.SInPrep).slots(0).by(dots()), nil, "cell 4 t4; cell 5 t5; cell 6 nil; on at 1 c4=t4 c5=t5 c6=nil"},
	{"a slot twice", []bool{false, true}, stmt(api.SLocal).slots(0, 0, 1, 1).by(num(1), dots()), nil, "cell 2 t4; cell 3 nil; on at 1 t3 c3=nil"},
	{"a target twice", []bool{false, true}, stmt(api.SAssign).to(slot(0), slot(1), slot(0), slot(1)).by(slot(1), slot(0), num(5)), nil, "on at 1 5 c1=nil"},
	{"a target without a cell", []bool{false, true}, stmt(api.SAssign).to(slot(1), slot(1)).by(slot(1), num(5)), make([]api.Value, 2), "cell 2 nil; on at 1 nil c2=5"},
	{"a test of a box", []bool{true}, stmt(api.STest).by(slot(0)).orElse(-1), make([]api.Value, 1), "on at -1 nil"},
	{"parens of dots", nil, returns(paren(paren(dots()))), nil, "returns t1"},
	{"parens ahead", nil, returns(paren(dots()), dots()), nil, "returns t1 t1 t2"},
}

// P10.2: statements that no text tells.
func TestByHand(t *testing.T) {
	for _, row := range byHand {
		p := alone(0)
		p.Protos[0] = lay(root(boxed(row.boxed...)), row.s, jump())
		if got := traced(t, row.what, p, 0, 0, row.slots...); got != row.want {
			t.Errorf("%s:\n%s, not\n%s", row.what, got, row.want)
		}
	}
}
