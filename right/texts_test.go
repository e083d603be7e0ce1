package right_test

import (
	"fmt"
	"math/rand"
	"slices"
	"strings"
	"testing"

	"twinstep/api"
	"twinstep/flow"
	"twinstep/parse"
)

// texts_test.go: what Resolve tells of texts is right (P9.2).

// resolved answers the program of a text, or its fault.
func resolved(text string) (api.Program, api.Fault) {
	s, fault := parse.Parse(text)
	if fault != (api.Fault{}) {
		return api.Program{}, fault
	}
	return flow.Resolve(s)
}

// program answers the program of a text that has no fault.
func program(t *testing.T, text string) api.Program {
	t.Helper()
	p, fault := resolved(text)
	if fault != (api.Fault{}) {
		t.Fatalf("%s: %v", short(text), fault)
	}
	return p
}

// texts answers texts of every rule of the language.
func texts() []string {
	return []string{
		"", ";", "do end", "::a::", "return", "return;", "return 1", "return nil, true, false, 7, 'x', ...", "do return x end x()",
		"local x", "local x, y, z", "local x = 1", "local x, y = 1, 2, f()", "local x = x local x = x", "x = 1", "x, y.z, t[1] = 1, 2", "local x x, y = y, x",
		"f()", "f(1, x, ...)", "f 's'", "f {}", "o:m()", "o:m 's'", "o:m {1}", "a.b[c]:d(e).f(g)(h)", "(f)()", "(f.g):h()",
		"while x do end", "while x do break end y()", "while true do local x = 1 if x then break end end", "repeat until x", "repeat local x = 1 until x == 1", "repeat break until f(function() return x end)",
		"if x then end", "if x then y() else z() end", "if x then elseif y then z() elseif z then else break_() end", "if x then return end y()",
		"for i = 1, 2 do end", "for i = 1, 2, 3 do print(i) break end x()", "for i = 1, 3 do for j = i, 3 do l[i] = function() i = i + j return i end end end",
		"for k in pairs(t) do end", "for i, j, k in x, y, z, w do print(i, j, k) end", "for k, v in next, t do if k then goto next end print(v) ::next:: end",
		"function f() end", "function a.b.c(x) end", "function a.b:c(x, y, ...) return self, x, ... end", "local function f() return f end f()", "local function f(x, ...) return select('#', ...), ... end return f(1)",
		"goto a ::a::", "::a:: x() goto a", "do goto b x() ::b:: end", "for i = 1, 5 do if i == 3 then goto next end if i == 5 then break end print(i) ::next:: end", "goto a local x ::a::", "::a:: do goto a end", "while x do goto b end ::b:: y()",
		"x = -1 + 2 * 3 // 4 % 5", "x = a & b | c ~ d << e >> f", "x = a .. b .. c", "x = a == b ~= c < d <= e > f >= g", "x = not #-~a", "x = a and b or c and (d or e)", "x = ((1))", "x = (...)",
		"x = {}", "x = {1, 2; 3}", "x = {[1] = 2, y = 3, z, ...}", "x = {{}, {{}}, f()}", "x = function() end", "x = function(a, b, ...) return a, b, ... end",
		"local a function f() return a end", "local a, b local function f() local c = a return function() b = c return a, c, f end end",
		"local function f() return function() return function() return f end end end", "return function(x) return function(y) return function(z) return x + y + z end end end",
		"do local x = 1 g = function() x = x + 1 return x end end for i = 1, 2 do print(g(), i) end",
		"local t = setmetatable({}, {__index = function(t, k) return k end, __call = function(self, x) return x end}) print(t.q, t(8), #t)",
		"local c = coroutine.create(function(a, b) local d = coroutine.yield(a + b) error(d) end) print(coroutine.resume(c, 1, 2))",
	}
}

// numbered answers s with each number from 1 on, up to count, behind it.
func numbered(s string, count int) string {
	var out []string
	for i := range count {
		out = append(out, fmt.Sprint(s, i+1))
	}
	return strings.Join(out, ",")
}

// P9.2: texts of every rule.
func TestTexts(t *testing.T) {
	for _, text := range texts() {
		tell(t, text, program(t, text), true)
	}
}

// P9.2: texts that are as great as a right program may be.
func TestGreatTexts(t *testing.T) {
	again := strings.Repeat
	names := "local " + numbered("v", 120) + "\n"
	for what, text := range map[string]string{
		"200 functions side by side": again("f(function() end) ", 199),
		"functions in one another":   again("return function() ", 48) + again(" end", 48),
		"120 slots":                  names + "return " + numbered("v", 120),
		"120 parameters":             "return function(" + numbered("v", 120) + ", ...) return ..., v120 end",
		"a for's hidden slots":       "local " + numbered("v", 116) + " for i = 1, 2 do print(i) end",
		"a for in's hidden slots":    "local " + numbered("v", 100) + " for " + numbered("w", 17) + " in f do print(w17) end",
		"60 Ups":                     names + "return function() return function() return " + numbered("v", 60) + " end, v1 end",
		"200 values":                 "f(" + numbered("v", 200) + ") o:m(" + numbered("v", 200) + ") " + numbered("g", 200) + " = " + numbered("v", 200) + " return " + numbered("v", 200),
		"200 values of a for in":     "for i in " + numbered("v", 200) + " do end",
		"2045 items":                 "return {" + again("a,", 2045) + "}",
		"expressions":                "return " + again("a + ", 2045) + "a",
		"statements":                 again("while a do end ", 1023) + again("for i = 1, 2 do break end ", 1),
		"loops":                      again("for i in f do end ", 1020),
		"texts":                      "f(" + numbered("v", 200) + ") " + again("f('"+again("z", 60)+"') ", 300) + "f('" + again("y", 40000) + "')",
	} {
		tell(t, what, program(t, text), true)
	}
}

// grower puts texts together by chance, of as much as it has fuel for.
type grower struct {
	*rand.Rand
	fuel, labels int
	loops        int  // how many are around, in the function around
	dots         bool // whether that has more
}

func (g *grower) pick(these ...string) string { return these[g.Intn(len(these))] }

func (g *grower) name() string { return fmt.Sprint("v", g.Intn(5)) }

func (g *grower) list(least int, one func() string) string {
	var out []string
	for range least + g.Intn(3) {
		out = append(out, one())
	}
	return strings.Join(out, ", ")
}

// maybe answers what is made, or nothing.
func (g *grower) maybe(make func() string) string {
	if g.Intn(2) == 0 {
		return ""
	}
	return make()
}

func (g *grower) expr() string {
	g.fuel--
	if g.fuel < 0 || g.Intn(3) == 0 {
		if g.dots && g.Intn(5) == 0 {
			return "..."
		}
		return g.pick("nil", "true", "false", "7", "'s'", g.name(), g.name(), g.name())
	}
	switch g.Intn(9) {
	case 0:
		return g.expr() + " " + g.pick("or", "and") + " " + g.expr()
	case 1:
		return g.expr() + " " + g.pick(strings.Fields("== ~= < <= > >= | ~ & << >> .. + - * // %")...) + " " + g.expr()
	case 2:
		return g.pick("-", "not", "#", "~") + " " + g.expr()
	case 3:
		return "function" + g.body()
	case 4:
		return "{" + g.list(0, g.field) + "}"
	case 5:
		return "(" + g.expr() + ")"
	case 6:
		return g.prefix() + g.index()
	}
	return g.prefix() + g.args()
}

func (g *grower) field() string {
	switch g.Intn(4) {
	case 0:
		return g.name() + " = " + g.expr()
	case 1:
		return "[" + g.expr() + "] = " + g.expr()
	}
	return g.expr()
}

// prefix answers what may be called or indexed; it begins with a name.
func (g *grower) prefix() string {
	out := g.name()
	for g.Intn(5) == 0 {
		out += g.maybe(g.index) + g.maybe(g.args)
	}
	return out
}

func (g *grower) index() string {
	if g.Intn(2) == 0 {
		return "." + g.name()
	}
	return "[" + g.expr() + "]"
}

func (g *grower) args() string {
	method := g.maybe(func() string { return ":" + g.name() })
	switch g.Intn(6) {
	case 0:
		return method + "'s'"
	case 1:
		return method + "{" + g.list(0, g.field) + "}"
	}
	return method + "(" + g.list(0, g.expr) + ")"
}

func (g *grower) body() string {
	loops, dots := g.loops, g.dots
	params := g.list(0, g.name)
	g.loops, g.dots = 0, g.Intn(2) == 0
	if g.dots {
		params = strings.TrimPrefix(params+", ...", ", ")
	}
	out := "(" + params + ") " + g.block() + " end"
	g.loops, g.dots = loops, dots
	return out
}

func (g *grower) block() string {
	out := ""
	for g.fuel > 0 && g.Intn(4) > 0 {
		out += g.stat() + "; "
	}
	if g.Intn(8) == 0 {
		out += "return " + g.list(0, g.expr)
	}
	return out
}

// loop answers a block, in which a break may stand.
func (g *grower) loop() string {
	g.loops++
	defer func() { g.loops-- }()
	return g.block()
}

func (g *grower) stat() string {
	g.fuel--
	switch g.Intn(14) {
	case 0, 1:
		return "local " + g.list(1, g.name) + g.maybe(func() string { return " = " + g.list(1, g.expr) })
	case 2:
		return g.list(1, func() string { return g.prefix() + g.index() }) + " = " + g.list(1, g.expr)
	case 3:
		return g.list(1, g.name) + " = " + g.list(1, g.expr)
	case 4:
		return g.prefix() + g.args()
	case 5:
		return "while " + g.expr() + " do " + g.loop() + " end"
	case 6:
		return "repeat " + g.loop() + " until " + g.expr()
	case 7:
		return "if " + g.expr() + " then " + g.block() + g.maybe(g.elseif) + g.maybe(func() string { return " else " + g.block() }) + " end"
	case 8:
		return "for " + g.name() + " = " + g.expr() + ", " + g.expr() + g.maybe(func() string { return ", " + g.expr() }) + " do " + g.loop() + " end"
	case 9:
		return "for " + g.list(1, g.name) + " in " + g.list(1, g.expr) + " do " + g.loop() + " end"
	case 10:
		return "local function " + g.name() + g.body()
	case 11:
		return g.jumps()
	case 12:
		if g.loops > 0 {
			return "break"
		}
	}
	return "do " + g.block() + " end"
}

func (g *grower) elseif() string { return " elseif " + g.expr() + " then " + g.block() }

// jumps answers a block with a label, and gotos to it.
func (g *grower) jumps() string {
	g.labels++
	label := fmt.Sprint("l", g.labels)
	if g.Intn(2) == 0 {
		return "::" + label + ":: " + g.stat() + "; if " + g.expr() + " then goto " + label + " end"
	}
	return "do if " + g.expr() + " then goto " + label + " end " + g.stat() + "; ::" + label + ":: end"
}

// text answers a text as a whole.
func (g *grower) text() string {
	out := g.pick("", "local v0, v1, v2; ")
	for g.fuel > 0 {
		out += g.stat() + "; "
	}
	return out + g.block()
}

// count counts what programs have.
func count(seen map[string]int, p api.Program) {
	for _, f := range p.Protos {
		for _, e := range f.Exprs {
			seen[kindNames[e.Kind]]++
		}
		for _, s := range f.Stmts {
			seen[fmt.Sprint("statement ", s.Kind)]++
		}
		for _, up := range f.Ups {
			seen[fmt.Sprint("Up ", up.Local)]++
		}
	}
}

// P9.2: texts by chance, small and great; and what comes of their programs by a few changes.
func TestGrownTexts(t *testing.T) {
	seen := map[string]int{}
	spoils := spoiler{rand.New(rand.NewSource(92))}
	for seed := range 3000 {
		g := grower{Rand: rand.New(rand.NewSource(int64(seed))), fuel: []int{10, 30, 100, 300}[seed%4], dots: true}
		text := g.text()
		p, fault := resolved(text)
		if fault.Err == api.ErrLong {
			seen["too long"]++
			continue
		}
		if fault != (api.Fault{}) {
			t.Fatal(text, fault)
		}
		if !agree(t, text, p) {
			t.Fatalf("%s: not right: %s", text, toldWrong(p))
		}
		count(seen, p)
		for range 3 {
			if agree(t, text, spoils.spoil(p)) {
				seen["right by chance"]++
			} else {
				seen["wrong by chance"]++
			}
		}
	}
	t.Log(seen)
	wants := []string{"Up true", "Up false", "right by chance", "wrong by chance"}
	for _, name := range kindNames {
		wants = append(wants, name)
	}
	for k := range stmtRows {
		wants = append(wants, fmt.Sprint("statement ", k))
	}
	slices.Sort(wants)
	for _, what := range wants {
		if seen[what] < 2000 {
			t.Errorf("%s: %d", what, seen[what])
		}
	}
}
