package flow_test

import (
	"fmt"
	"math"
	"math/rand"
	"slices"
	"strings"
	"testing"

	"twinstep/api"
	"twinstep/flow"
	"twinstep/nodes"
	"twinstep/parse"
	"twinstep/right"
)

// short tells a text shortly.
func short(s string) string {
	if len(s) > 900 {
		return s[:450] + " .. " + s[len(s)-450:]
	}
	return s
}

// resolved answers what Resolve says of s; and asks that it says the same again, in memory of its own, whatever the order of the list is, with s as it was, and that it is what the second reading says.
func resolved(t *testing.T, what string, s api.Syntax) (api.Program, api.Fault) {
	t.Helper()
	program, fault := flow.Resolve(s)
	want, wantFault := read(s)
	if fault != wantFault || whole(program) != whole(want) {
		t.Fatalf("%s: Resolve:\n%v %s, the second reading:\n%v %s", short(what), fault, short(whole(program)), wantFault, short(whole(want)))
	}
	for i, o := range orders(rand.New(rand.NewSource(8)), s) {
		o = copied(o)
		before := wholeSyntax(o)
		again, fault := flow.Resolve(o)
		if fault != wantFault || whole(again) != whole(program) {
			t.Fatalf("%s: order %d: Resolve:\n%v %s, want\n%v %s", short(what), i, fault, short(whole(again)), wantFault, short(whole(program)))
		}
		if wholeSyntax(o) != before {
			t.Fatalf("%s: order %d: it was changed", short(what), i)
		}
		spoil(again)
		if whole(program) != whole(want) || wholeSyntax(o) != before {
			t.Fatalf("%s: order %d: an answer shares memory", short(what), i)
		}
	}
	return program, fault
}

// spoil writes over all of p, and the room behind its lists.
func spoil(p api.Program) {
	wipe(p.Strs, "spoilt")
	for _, f := range p.Protos {
		wipe(f.Boxed, true)
		wipe(f.Ups, api.Up{At: -7})
		for _, s := range f.Stmts {
			wipe(s.Slots, -7)
			wipe(s.Targets, -7)
			wipe(s.Exprs, -7)
		}
		for _, e := range f.Exprs {
			wipe(e.Kids, -7)
		}
		wipe(f.Stmts, api.Stmt{})
		wipe(f.Exprs, api.Expr{})
	}
	wipe(p.Protos, api.Proto{})
}

func wipe[T any](list []T, with T) {
	list = list[:cap(list)]
	for i := range list {
		list[i] = with
	}
}

// apart tells whether no two lists of ints of p share memory, the room behind them too.
func apart(p api.Program) bool {
	var lists [][]int
	for _, f := range p.Protos {
		for _, s := range f.Stmts {
			lists = append(lists, s.Slots, s.Targets, s.Exprs)
		}
		for _, e := range f.Exprs {
			lists = append(lists, e.Kids)
		}
	}
	for i, list := range lists {
		wipe(list, i)
	}
	for i, list := range lists {
		for _, n := range list[:cap(list)] {
			if n != i {
				return false
			}
		}
	}
	return true
}

// follows asks for P8.2 of a program that s tells.
func follows(t *testing.T, what string, s api.Syntax, p api.Program) {
	t.Helper()
	if !right.Right(p) {
		t.Fatalf("%s: not right: %s", short(what), short(whole(p)))
	}
	if how := strays(s, p); how != "" {
		t.Fatalf("%s: it goes another way: %s", short(what), how)
	}
	wrapped := unlay(s)
	wrapped.parts[0] = block(of(api.NDo, wrapped.parts[0]).line(7)).line(7)
	inner := lay(wrapped)
	if !nodes.Right(inner) {
		return
	}
	again, fault := flow.Resolve(inner)
	if fault != (api.Fault{}) || whole(withoutLines(again)) != whole(withoutLines(p)) {
		t.Fatalf("%s: in do .. end: %v %s, want\n%s", short(what), fault, short(whole(again)), short(whole(p)))
	}
}

// withoutLines answers p with 0 for all lines.
func withoutLines(p api.Program) api.Program {
	out := api.Program{Strs: p.Strs}
	for _, f := range p.Protos {
		f.Stmts = slices.Clone(f.Stmts)
		for i := range f.Stmts {
			f.Stmts[i].Line = 0
		}
		out.Protos = append(out.Protos, f)
	}
	return out
}

func parsed(t *testing.T, text string) api.Syntax {
	t.Helper()
	s, fault := parse.Parse(text)
	if fault != (api.Fault{}) {
		t.Fatalf("Parse(%s): %v", short(text), fault)
	}
	return s
}

// program answers the program of a text, and asks for all that holds of it.
func program(t *testing.T, text string) api.Program {
	t.Helper()
	s := parsed(t, text)
	p, fault := resolved(t, text, s)
	if fault != (api.Fault{}) {
		t.Fatalf("%s: %v", short(text), fault)
	}
	follows(t, text, s, p)
	if other, _ := flow.Resolve(s); !apart(other) {
		t.Fatalf("%s: two lists share memory", short(text))
	}
	return p
}

// want asks for the program of a text, as told tells it.
func want(t *testing.T, text string, lines ...string) api.Program {
	t.Helper()
	p := program(t, text)
	if got := told(p); !slices.Equal(got, lines) {
		t.Errorf("%s:\n%s\nwant\n%s", short(text), short(strings.Join(got, "\n")), short(strings.Join(lines, "\n")))
	}
	return p
}

// wantRoot asks for the statements of a text's function 0.
func wantRoot(t *testing.T, text string, lines ...string) {
	t.Helper()
	p := program(t, text)
	got := told(api.Program{Strs: p.Strs, Protos: p.Protos[:1]})[1:]
	if !slices.Equal(got, lines) {
		t.Errorf("%s:\n%s\nwant\n%s", short(text), short(strings.Join(got, "\n")), short(strings.Join(lines, "\n")))
	}
}

// wantFault asks for a text's fault.
func wantFault(t *testing.T, text string, err api.Errno, line int) {
	t.Helper()
	if _, fault := resolved(t, text, parsed(t, text)); fault != (api.Fault{Err: err, Line: line}) {
		t.Errorf("%s: %v, want %v %d", short(text), fault, err, line)
	}
}

// wantNone asks that a text has no fault.
func wantNone(t *testing.T, texts ...string) {
	t.Helper()
	for _, text := range texts {
		program(t, text)
	}
}

// Chapter 8, examples.
func TestExamples(t *testing.T) {
	p := want(t, "local x = 1 x = x + y", "0(0 ...) slots 1", "local 0 = 1 > 1", "assign s0 = +(s0, $y) > -1")
	if got := fmt.Sprint(p.Strs, list(p, p.Protos[0])); got != "[y]1 s0 s0 $y +[2,3]" {
		t.Error(got)
	}
	want(t, "local a function f() return a end",
		"0(0 ...) slots 1 boxed 0", "local 0 > 1", "assign $f = f1 > -1", "1(0) slots 0 ups s0", "return = u0 > -1")
	want(t, "while x do break end y()",
		"0(0 ...) slots 0", "test = $x > 1 / 3", "jump > 3", "jump > 0", "call = call($y) > -1")
	wantFault(t, "goto a local x ::a:: y = 1", api.ErrInto, 1)
	want(t, "goto a local x ::a::", "0(0 ...) slots 1", "jump > -1", "local 0 > -1")
	wantFault(t, "break", api.ErrBreak, 1)
	wantFault(t, "::a:: do ::a:: end", api.ErrTwice, 1)
	wantFault(t, "do ::a:: end goto a", api.ErrLabel, 1)
	wantFault(t, "function f() return ... end", api.ErrDots, 1)
}

// P8.1: no statement at all.
func TestNothing(t *testing.T) {
	for _, text := range []string{"", ";;", "do end", "::a::", "::a:: do ::b:: end ::c::", "do do end do end end"} {
		want(t, text, "0(0 ...) slots 0 start -1")
	}
	want(t, "return function() end", "0(0 ...) slots 0", "return = f1 > -1", "1(0) slots 0 start -1")
}

// P8.1: what is not right, whatever else it has.
func TestTree(t *testing.T) {
	bad := []*part{
		function(0),
		text(calls(name("end"))),
		text(assign(2, name("a"), number(1))),
		text(of(api.NBreak).line(0)),
		text(of(api.NGoto).name("a"), returns(), returns()),
		of(api.NBlock),
	}
	syntaxes := []api.Syntax{{}, {Root: -1}, {Root: 1}}
	for _, p := range bad {
		syntaxes = append(syntaxes, lay(p))
	}
	twice := lay(text(calls(name("f"), name("a"))))
	twice.Nodes[2].Kids = []int{0, 0}
	beyond := lay(text(of(api.NBreak)))
	beyond.Nodes[beyond.Root].Kids = []int{9}
	loop := lay(text(do()))
	loop.Nodes[0].Kids = []int{1}
	for i, s := range append(syntaxes, twice, beyond, loop) {
		before := wholeSyntax(s)
		p, fault := flow.Resolve(s)
		if fault != (api.Fault{Err: api.ErrTree}) || p.Strs != nil || p.Protos != nil {
			t.Errorf("%d: %v %v", i, p, fault)
		}
		if wholeSyntax(s) != before {
			t.Errorf("%d: it was changed", i)
		}
	}
}

// P8.1: each kind of expression, in the order of the list, with what it needs of Strs.
func TestExpressions(t *testing.T) {
	for _, c := range []struct{ text, list, strs string }{
		{"nil, true, false, 7, 'x', ...", "nil true false 7 'x' ...", "x"},
		{"g", "$g", "g"},
		{"0x8000000000000000, 0xffffffffffffffff", "-9223372036854775808 -1", ""},
		{"a.b", "$a 'b' index[0,1]", "a b"},
		{"a[b][c]", "$a $b index[0,1] $c index[2,3]", "a b c"},
		{"f()", "$f call[0]", "f"},
		{"f(a, b)", "$f $a $b call[0,1,2]", "f a b"},
		{"o:m()", "$o :m[0]", "m o"},
		{"o:m(a, b)", "$o $a $b :m[0,1,2]", "m o a b"},
		{"a:b():c()", "$a :b[0] :c[1]", "c b a"},
		{"f'x'", "$f 'x' call[0,1]", "f x"},
		{"x + y", "$x $y +[0,1]", "x y"},
		{"a or b and c", "$a $b $c and[1,2] or[0,3]", "a b c"},
		{"a and b or c", "$a $b and[0,1] $c or[2,3]", "a b c"},
		{"-a, not a, #a, ~a", "$a -[0] $a not[2] $a #[4] $a ~[6]", "a"},
		{"{}", "table[]", ""},
		{"{1, a, k = b, [c] = 2; 3}", "1 item[0] $a item[2] 'k' $b named[4,5] $c 2 named[7,8] 3 item[10] table[1,3,6,9,11]", "a k b c"},
		{"(a), (f())", "$a paren[0] $f call[2] paren[3]", "a f"},
		{"(...)", "... paren[0]", ""},
		{"function() end, a", "f1 $a", "a"},
		{"function() return b end, a, function() return a end", "f1 $a f2", "b a"},
		{"a, 'a', a.a, b:a(), 'b'", "$a 'a' $a 'a' index[2,3] $b :a[5] 'b'", "a b"},
		{"a, 'A', 'a ', '', ''", "$a 'A' 'a ' '' ''", "a A a  "},
	} {
		p := program(t, "return "+c.text)
		if got := list(p, p.Protos[0]); got != c.list {
			t.Errorf("%s:\n%s\nwant\n%s", c.text, got, c.list)
		}
		if got := strings.Join(p.Strs, " "); got != c.strs {
			t.Errorf("%s: Strs %q, want %q", c.text, got, c.strs)
		}
	}
}

// P8.1: the operators' numbers, the integers as they are, and texts of any bytes.
func TestNumbers(t *testing.T) {
	for op := api.Add; op <= api.Bnot; op++ {
		e := of(api.NUn, name("a"))
		if op < api.Neg {
			e = of(api.NBin, name("a"), name("b"))
		}
		p, fault := resolved(t, "operators", lay(text(returns(e.n(int64(op))))))
		all := p.Protos[0].Exprs
		if got := all[len(all)-1]; fault != (api.Fault{}) || got.N != int64(op) || len(got.Kids) != len(e.parts) {
			t.Errorf("%d: %v %v", op, got, fault)
		}
	}
	for _, n := range []int64{0, 1, -1, math.MaxInt64, math.MinInt64} {
		p, _ := resolved(t, "integers", lay(text(returns(number(n)))))
		if got := p.Protos[0].Exprs[0]; got.Kind != api.EInt || got.N != n {
			t.Errorf("%d: %v", n, got)
		}
	}
	for _, s := range []string{"", "\x00", "\xff\xfe", "end", strings.Repeat("z", 65535)} {
		p, _ := resolved(t, "texts", lay(text(returns(of(api.NStr).name(s), of(api.NStr).name(s), of(api.NStr).name("o")))))
		if !slices.Equal(p.Strs, []string{s, "o"}) {
			t.Errorf("%q: %q", short(s), p.Strs)
		}
	}
}

// P8.1: the order of expressions and of Strs over statements and functions.
func TestOrder(t *testing.T) {
	p := program(t, "a.b, c = d, e while f do g = h end repeat i() until j for k = l, m, n do o = k end")
	if got := list(p, p.Protos[0]); got != "$a 'b' index[0,1] $c $d $e $f $g $h $i call[9] $j $l $m $n $o s3" {
		t.Error(got)
	}
	if got := strings.Join(p.Strs, ""); got != "abcdefghijlmno" {
		t.Error(got)
	}
	p = program(t, "x(function(a) y(a, function() z(a) end, w) end, v) u()")
	var got []string
	for _, f := range p.Protos {
		got = append(got, list(p, f))
	}
	if !slices.Equal(got, []string{"$x f1 $v call[0,1,2] $u call[4]", "$y s0 f2 $w call[0,1,2,3]", "$z u0 call[0,1]"}) {
		t.Errorf("%q", got)
	}
	if got := strings.Join(p.Strs, ""); got != "xyzwvu" {
		t.Error(got)
	}
}

// P8.1: functions' numbers, in the order in which they begin, and what each has of its own.
func TestFunctions(t *testing.T) {
	want(t, "f(function(a, b) return function() end, function(...) end end, function(x, ...) local y, z end)",
		"0(0 ...) slots 0", "call = call($f, f1, f4) > -1",
		"1(2) slots 2", "return = f2, f3 > -1",
		"2(0) slots 0 start -1", "3(0 ...) slots 0 start -1",
		"4(1 ...) slots 3", "local 1 2 > -1")
	want(t, "function a.b.c(x) end function a:d(y) return self, y end local function e() end",
		"0(0 ...) slots 1", "assign index(index($a, 'b'), 'c') = f1 > 1", "assign index($a, 'd') = f2 > 2", "func 0 = f3 > -1",
		"1(1) slots 1 start -1", "2(2) slots 2", "return = s0, s1 > -1", "3(0) slots 0 start -1")
	want(t, "repeat local a until function() return a end f = function() end",
		"0(0 ...) slots 1 boxed 0", "local 0 > 1", "test = f1 > 3 / 2", "jump > 0", "assign $f = f2 > -1",
		"1(0) slots 0 ups s0", "return = u0 > -1", "2(0) slots 0 start -1")
	want(t, "return function(x, x) return x end, {function() end, [function() end] = function() end}",
		"0(0 ...) slots 0", "return = f1, table(item(f2), named(f3, f4)) > -1", "1(2) slots 2", "return = s1 > -1",
		"2(0) slots 0 start -1", "3(0) slots 0 start -1", "4(0) slots 0 start -1")
}

// P8.1: a variable is there from where it is made on, to the end of its block; of two the last one counts.
func TestNames(t *testing.T) {
	wantRoot(t, "local x = x local x = x x = x", "local 0 = $x > 1", "local 1 = s0 > 2", "assign s1 = s1 > -1")
	wantRoot(t, "local x, y, x = 1 return x, y, z", "local 0 1 2 = 1 > 1", "return = s2, s1, $z > -1")
	wantRoot(t, "x = y local x y = x", "assign $x = $y > 1", "local 0 > 2", "assign $y = s0 > -1")
	wantRoot(t, "local x do local x x = 1 end x = 2", "local 0 > 1", "local 1 > 2", "assign s1 = 1 > 3", "assign s0 = 2 > -1")
	wantRoot(t, "do local x end x = 1", "local 0 > 1", "assign $x = 1 > -1")
	wantRoot(t, "local a = a, b local b, c = a, c", "local 0 = $a, $b > 1", "local 1 2 = s0, $c > -1")
	wantRoot(t, "local t t.x, t[t] = t", "local 0 > 1", "assign index(s0, 'x'), index(s0, s0) = s0 > -1")
	want(t, "local function f() return f end local g = function() return g, f end",
		"0(0 ...) slots 2 boxed 0", "func 0 = f1 > 1", "local 1 = f2 > -1",
		"1(0) slots 0 ups s0", "return = u0 > -1", "2(0) slots 0 ups s0", "return = $g, u0 > -1")
	want(t, "local f local function f() return f end return f",
		"0(0 ...) slots 2 boxed 1", "local 0 > 1", "func 1 = f1 > 2", "return = s1 > -1",
		"1(0) slots 0 ups s1", "return = u0 > -1")
	want(t, "return function(a) local a = a return a end",
		"0(0 ...) slots 0", "return = f1 > -1", "1(1) slots 2", "local 1 = s0 > 1", "return = s1 > -1")
	wantRoot(t, "while x do local x end if x then local x x() else x() end x()",
		"test = $x > 1 / 3", "local 0 > 2", "jump > 0", "test = $x > 4 / 7", "local 0 > 5", "call = call(s0) > 6", "jump > 8", "call = call($x) > 8", "call = call($x) > -1")
	wantRoot(t, "if a then local b elseif b then local c else c() end",
		"test = $a > 1 / 3", "local 0 > 2", "jump > -1", "test = $b > 4 / 6", "local 0 > 5", "jump > -1", "call = call($c) > -1")
}

// P8.1: a repeat's condition has its block's variables, but not those of blocks in it; behind it they are gone.
func TestUntil(t *testing.T) {
	wantRoot(t, "repeat local x = 1 do local y end until x == y x = y",
		"local 0 = 1 > 1", "local 1 > 2", "test = ==(s0, $y) > 4 / 3", "jump > 0", "assign $x = $y > -1")
	wantRoot(t, "local x repeat local x repeat local x until x until x x()",
		"local 0 > 1", "local 1 > 2", "local 2 > 3", "test = s2 > 5 / 4", "jump > 2", "test = s1 > 7 / 6", "jump > 1", "call = call(s0) > -1")
	want(t, "repeat local x until f(function() return x end) local y",
		"0(0 ...) slots 1 boxed 0", "local 0 > 1", "test = call($f, f1) > 3 / 2", "jump > 0", "local 0 > -1",
		"1(0) slots 0 ups s0", "return = u0 > -1")
}

// P8.1: slots: how many variables are there when one is made; hidden ones, too; and how many there are at most at once.
func TestSlots(t *testing.T) {
	want(t, "do local a, b end local c do local d do local e end end local f",
		"0(0 ...) slots 3", "local 0 1 > 1", "local 0 > 2", "local 1 > 3", "local 2 > 4", "local 1 > -1")
	want(t, "local a for i = a, i do local b end local c",
		"0(0 ...) slots 6", "local 0 > 1", "forprep 1 = s0, $i > 2", "forloop 1 4 > 3 / 5", "local 5 > 4", "jump > 2", "local 1 > -1")
	want(t, "for i, j in i, j do for k = j, i, k do k(i) end end local x",
		"0(0 ...) slots 9", "inprep 0 = $i, $j > 1", "inloop 0 3 4 > 2 / 7",
		"forprep 5 = s4, s3, $k > 3", "forloop 5 8 > 4 / 6", "call = call(s8, s3) > 5", "jump > 3", "jump > 1", "local 0 > -1")
	want(t, "for a, a in f do a() end", "0(0 ...) slots 5", "inprep 0 = $f > 1", "inloop 0 3 4 > 2 / -1", "call = call(s4) > 3", "jump > 1")
	want(t, "for i = 1, 2 do local i = i end return i",
		"0(0 ...) slots 5", "forprep 0 = 1, 2 > 1", "forloop 0 3 > 2 / 4", "local 4 = s3 > 3", "jump > 1", "return = $i > -1")
	want(t, "local a, b, c for i = 1, 2 do end", "0(0 ...) slots 7", "local 0 1 2 > 1", "forprep 3 = 1, 2 > 2", "forloop 3 6 > 3 / -1", "jump > 2")
	want(t, "return function(a, b) do local c end local d, e end",
		"0(0 ...) slots 0", "return = f1 > -1", "1(2) slots 4", "local 2 > 1", "local 2 3 > -1")
	want(t, "local a f = function() local b g = function() local c end local d end local e",
		"0(0 ...) slots 2", "local 0 > 1", "assign $f = f1 > 2", "local 1 > -1",
		"1(0) slots 2", "local 0 > 1", "assign $g = f2 > 2", "local 1 > -1", "2(0) slots 1", "local 0 > -1")
}

// P8.1: Ups: whose variable it is, of which place, once, in order; and which slots are boxed.
func TestUps(t *testing.T) {
	want(t, "local a, b, c function f() return c, a, c, function() return b, a, d end end",
		"0(0 ...) slots 3 boxed 0 1 2", "local 0 1 2 > 1", "assign $f = f1 > -1",
		"1(0) slots 0 ups s2 s0 s1", "return = u0, u1, u0, f2 > -1", "2(0) slots 0 ups u2 u1", "return = u0, u1, $d > -1")
	want(t, "local a return function(b) return function(c) return function() return a, b, c end end end",
		"0(0 ...) slots 1 boxed 0", "local 0 > 1", "return = f1 > -1",
		"1(1) slots 1 boxed 0 ups s0", "return = f2 > -1",
		"2(1) slots 1 boxed 0 ups u0 s0", "return = f3 > -1",
		"3(0) slots 0 ups u0 u1 s0", "return = u0, u1, u2 > -1")
	want(t, "local a return function() local a = a return function() return a end end",
		"0(0 ...) slots 1 boxed 0", "local 0 > 1", "return = f1 > -1",
		"1(0) slots 1 boxed 0 ups s0", "local 0 = u0 > 1", "return = f2 > -1", "2(0) slots 0 ups s0", "return = u0 > -1")
	// Two variables of one name, and of one slot: functions within one function that use either.
	want(t, "local function f() do local a g(function() return a end) end local a, b g(function() return b end) end",
		"0(0 ...) slots 1", "func 0 = f1 > -1",
		"1(0) slots 2 boxed 0 1", "local 0 > 1", "call = call($g, f2) > 2", "local 0 1 > 3", "call = call($g, f3) > -1",
		"2(0) slots 0 ups s0", "return = u0 > -1", "3(0) slots 0 ups s1", "return = u0 > -1")
	// A slot is boxed, if just one of its variables is an Up.
	want(t, "do local a end do local b f(function() b = 1 end) end do local c end",
		"0(0 ...) slots 1 boxed 0", "local 0 > 1", "local 0 > 2", "call = call($f, f1) > 3", "local 0 > -1",
		"1(0) slots 0 ups s0", "assign u0 = 1 > -1")
	want(t, "for i = 1, 2 do f(function() return i end) end for k, v in k do f(function() return v end) end",
		"0(0 ...) slots 5 boxed 3 4", "forprep 0 = 1, 2 > 1", "forloop 0 3 > 2 / 4", "call = call($f, f1) > 3", "jump > 1",
		"inprep 0 = $k > 5", "inloop 0 3 4 > 6 / -1", "call = call($f, f2) > 7", "jump > 5",
		"1(0) slots 0 ups s3", "return = u0 > -1", "2(0) slots 0 ups s4", "return = u0 > -1")
	// The function around has its own of that name only later: the name means one further out.
	want(t, "local a function f() g(function() return a end) local a g(function() return a end) end",
		"0(0 ...) slots 1 boxed 0", "local 0 > 1", "assign $f = f1 > -1",
		"1(0) slots 1 boxed 0 ups s0", "call = call($g, f2) > 1", "local 0 > 2", "call = call($g, f3) > -1",
		"2(0) slots 0 ups u0", "return = u0 > -1", "3(0) slots 0 ups s0", "return = u0 > -1")
	// One that is used twice within, by two functions, is one Up of the one between.
	want(t, "local a, b function f() g(function() return b end) return function() return a, b end end",
		"0(0 ...) slots 2 boxed 0 1", "local 0 1 > 1", "assign $f = f1 > -1",
		"1(0) slots 0 ups s1 s0", "call = call($g, f2) > 1", "return = f3 > -1",
		"2(0) slots 0 ups u0", "return = u0 > -1", "3(0) slots 0 ups u1 u0", "return = u0, u1 > -1")
	want(t, "local a a.x, a = function() a.y, a = 1 end", "0(0 ...) slots 1 boxed 0", "local 0 > 1", "assign index(s0, 'x'), s0 = f1 > -1",
		"1(0) slots 0 ups s0", "assign index(u0, 'y'), u0 = 1 > -1")
}

// P8.1: each kind of statement, alone and with one behind it.
func TestStatements(t *testing.T) {
	for _, c := range []struct {
		text  string
		lines string // END is behind all
	}{
		{"local a", "local 0 > END"},
		{"local a, b = 1, f()", "local 0 1 = 1, call($f) > END"},
		{"a = 1", "assign $a = 1 > END"},
		{"a, b.c = 1, 2, 3", "assign $a, index($b, 'c') = 1, 2, 3 > END"},
		{"f(1)", "call = call($f, 1) > END"},
		{"o:m(1)", "call = :m($o, 1) > END"},
		{"while a do end", "test = $a > 1 / END; jump > 0"},
		{"while a do f() g() end", "test = $a > 1 / END; call = call($f) > 2; call = call($g) > 3; jump > 0"},
		{"repeat until a", "test = $a > END / 1; jump > 0"},
		{"repeat f() g() until a", "call = call($f) > 1; call = call($g) > 2; test = $a > END / 3; jump > 0"},
		{"if a then end", "test = $a > END / END"},
		{"if a then f() end", "test = $a > 1 / END; call = call($f) > END"},
		{"if a then else end", "test = $a > 1 / END; jump > END"},
		{"if a then f() else end", "test = $a > 1 / END; call = call($f) > 2; jump > END"},
		{"if a then else f() end", "test = $a > 1 / 2; jump > END; call = call($f) > END"},
		{"if a then f() else g() end", "test = $a > 1 / 3; call = call($f) > 2; jump > END; call = call($g) > END"},
		{"if a then elseif b then end", "test = $a > 1 / 2; jump > END; test = $b > END / END"},
		{"if a then f() elseif b then g() end", "test = $a > 1 / 3; call = call($f) > 2; jump > END; test = $b > 4 / END; call = call($g) > END"},
		{"if a then f() elseif b then g() else h() end", "test = $a > 1 / 3; call = call($f) > 2; jump > END; test = $b > 4 / 6; call = call($g) > 5; jump > END; call = call($h) > END"},
		{"if a then elseif b then elseif c then else end", "test = $a > 1 / 2; jump > END; test = $b > 3 / 4; jump > END; test = $c > 5 / END; jump > END"},
		{"for i = 1, 2 do end", "forprep 0 = 1, 2 > 1; forloop 0 3 > 2 / END; jump > 1"},
		{"for i = 1, 2, 3 do f(i) end", "forprep 0 = 1, 2, 3 > 1; forloop 0 3 > 2 / END; call = call($f, s3) > 3; jump > 1"},
		{"for k in a do end", "inprep 0 = $a > 1; inloop 0 3 > 2 / END; jump > 1"},
		{"for k, v, w in a, b, c, d do f(v) end", "inprep 0 = $a, $b, $c, $d > 1; inloop 0 3 4 5 > 2 / END; call = call($f, s4) > 3; jump > 1"},
		{"local function f() end", "func 0 = f1 > END"},
		{"do return end", "return > -1"},
		{"do return 1, f() end", "return = 1, call($f) > -1"},
		{"goto a ::a::", "jump > END"},
		{"goto a do ::a:: end ::a::", "jump > END"},
		{"::a:: goto a", "jump > 0"},
		{"while a do break end", "test = $a > 1 / END; jump > END; jump > 0"},
		{"repeat break until a", "jump > END; test = $a > END / 2; jump > 0"},
		{"do do f() end end", "call = call($f) > END"},
	} {
		lines := strings.Split(c.lines, "; ")
		count := len(lines)
		with := func(end string, more ...string) []string {
			return append(strings.Split(strings.ReplaceAll(c.lines, "END", end), "; "), more...)
		}
		wantRoot(t, c.text, with("-1")...)
		wantRoot(t, c.text+" ;::z:: do end", with("-1")...)
		p := program(t, c.text+" z()")
		behind := stmt(p, p.Protos[0], p.Protos[0].Stmts[len(lines)])
		if behind != "call = call($z) > -1" {
			t.Errorf("%s: behind: %s", c.text, behind)
		}
		wantRoot(t, c.text+" z()", with(fmt.Sprint(count), behind)...)
	}
}

// P8.1: statements in statements: where each goes on.
func TestNested(t *testing.T) {
	wantRoot(t, "while a do if b then while c do break end break else repeat until d end end",
		"test = $a > 1 / -1",
		"test = $b > 2 / 7",
		"test = $c > 3 / 5", "jump > 5", "jump > 2",
		"jump > -1",
		"jump > 9",
		"test = $d > 9 / 8", "jump > 7",
		"jump > 0")
	wantRoot(t, "repeat if a then break end until b z()",
		"test = $a > 1 / 2", "jump > 4", "test = $b > 4 / 3", "jump > 0", "call = call($z) > -1")
	wantRoot(t, "for i = 1, 2 do for k in a do if k then break end end break end z()",
		"forprep 0 = 1, 2 > 1", "forloop 0 3 > 2 / 9",
		"inprep 4 = $a > 3", "inloop 4 7 > 4 / 7", "test = s7 > 5 / 6", "jump > 7", "jump > 3",
		"jump > 9", "jump > 1", "call = call($z) > -1")
	wantRoot(t, "if a then if b then c() end else if d then e() else f() end end",
		"test = $a > 1 / 4", "test = $b > 2 / 3", "call = call($c) > 3", "jump > -1",
		"test = $d > 5 / 7", "call = call($e) > 6", "jump > -1", "call = call($f) > -1")
	wantRoot(t, "repeat repeat until a until b", "test = $a > 2 / 1", "jump > 0", "test = $b > -1 / 3", "jump > 0")
	wantRoot(t, "while a do return end", "test = $a > 1 / -1", "return > -1", "jump > 0")
	want(t, "while a do f(function() while b do break end return end) break end",
		"0(0 ...) slots 0", "test = $a > 1 / -1", "call = call($f, f1) > 2", "jump > -1", "jump > 0",
		"1(0) slots 0", "test = $b > 1 / 3", "jump > 3", "jump > 0", "return > -1")
}

// P8.1: a goto goes on behind the label of the inmost block that can be seen, ahead of it or behind.
func TestGotos(t *testing.T) {
	wantRoot(t, "::a:: f() goto a", "call = call($f) > 1", "jump > 0")
	wantRoot(t, "goto a f() ::a:: g()", "jump > 2", "call = call($f) > 2", "call = call($g) > -1")
	wantRoot(t, "goto a f() ::a:: ::b:: goto b", "jump > 2", "call = call($f) > 2", "jump > 2")
	wantRoot(t, "do goto a end f() ::a:: g()", "jump > 2", "call = call($f) > 2", "call = call($g) > -1")
	wantRoot(t, "do ::a:: f() goto a end ::a:: g() goto a", "call = call($f) > 1", "jump > 0", "call = call($g) > 3", "jump > 2")
	wantRoot(t, "do goto a f() ::a:: end g() ::a:: h()", "jump > 2", "call = call($f) > 2", "call = call($g) > 3", "call = call($h) > -1")
	wantRoot(t, "while a do if b then goto next end f() ::next:: end",
		"test = $a > 1 / -1", "test = $b > 2 / 3", "jump > 4", "call = call($f) > 4", "jump > 0")
	wantRoot(t, "repeat if b then goto next end f() ::next:: until a",
		"test = $b > 1 / 2", "jump > 3", "call = call($f) > 3", "test = $a > -1 / 4", "jump > 0")
	wantRoot(t, "for i = 1, 2 do while a do goto out end end f() ::out:: g()",
		"forprep 0 = 1, 2 > 1", "forloop 0 3 > 2 / 6", "test = $a > 3 / 5", "jump > 7", "jump > 2", "jump > 1", "call = call($f) > 7", "call = call($g) > -1")
}

// P8.1: a goto may go back over variables, and on over those that are gone, or that nobody can ask for behind the label.
func TestOver(t *testing.T) {
	wantRoot(t, "::a:: local x goto a", "local 0 > 1", "jump > 0")
	wantRoot(t, "local x ::a:: local y goto a z()", "local 0 > 1", "local 1 > 2", "jump > 1", "call = call($z) > -1")
	wantRoot(t, "goto a do local x end ::a:: z()", "jump > 2", "local 0 > 2", "call = call($z) > -1")
	wantRoot(t, "local x goto a ::a:: z()", "local 0 > 1", "jump > 2", "call = call($z) > -1")
	wantNone(t,
		"goto a for i = 1, 2 do end ::a:: z()",
		"goto a for k in a do local z end ::a:: z()",
		"goto a repeat local x until x ::a:: z()",
		"goto a f(function(x) local y end) ::a:: z()",
		"do local x goto a end ::a:: z()",
		"for i = 1, 2 do local x goto a end ::a:: z()",
		"goto a local x ::a:: ::b::", "goto a local x ::a:: ;;", "goto a local x ::b:: ::a:: ::c::",
		"goto a local function x() end ::a::",
		"do goto a local x ::a:: end z()",
		"while b do goto a local x ::a:: end z()",
		"for i = 1, 2 do goto a local x ::a:: end z()",
		"if b then goto a local x ::a:: else goto a local x ::a:: end z()",
		"repeat do goto a local x ::a:: end until b",
		"repeat goto a ::a:: until b", "repeat local x goto a ::a:: until x",
		"repeat goto a do local x end ::a:: until b",
		"repeat local x ::a:: if x then goto a end until x",
		"f(function(p) goto a local x ::a:: end)",
		"goto a local x do local y end ::a::",
		"do goto a end local x ::a::", "do local y goto a end local x ::a::",
	)
	for _, text := range []string{
		"goto a local x ::a:: z()", "goto a local x ::a:: do end", "goto a local x ::a:: local y", "goto a local x ::a:: return",
		"goto a local x ::a:: goto a", "goto a local x ::a:: ::b:: z()", "goto a local x do local y end ::a:: z()",
		"goto a local function x() end ::a:: z()", "goto a local x, y ::a:: z()",
		"do goto a end local x ::a:: z()", "do local x goto a end local y ::a:: z()", "do local x do goto a end end local y ::a:: z()",
		"while b do goto a end local x ::a:: z()", "for i = 1, 2 do goto a end local x ::a:: z()",
		"repeat goto a local x ::a:: until b", "repeat goto a local x ::a:: ::b:: until b", "repeat goto a local x ::a:: until x",
		"repeat do goto a end local x ::a:: until b", "repeat local y goto a local x ::a:: until b",
		"repeat if b then goto a end local x ::a:: until x",
		"f(function(p) goto a local x ::a:: z() end)", "f(function() repeat goto a local x ::a:: until x end)",
		"::b:: goto a local x goto b ::a:: z()",
		"local y goto a local x ::a:: z()",
	} {
		wantFault(t, text, api.ErrInto, 1)
	}
}

// P8.1: labels: where one can be seen, and which one is there twice.
func TestLabels(t *testing.T) {
	wantNone(t,
		"::a:: ::b::", "do ::a:: end ::a::", "do ::a:: end do ::a:: end", "if b then ::a:: elseif c then ::a:: else ::a:: end",
		"::a:: f(function() ::a:: goto a end) goto a", "f(function() ::a:: end, function() ::a:: end) ::a::",
		"while b do ::a:: end repeat ::a:: until b", "do do ::a:: end ::a:: end ::a::",
	)
	for _, text := range []string{
		"::a:: ::a::", "::a:: local x ::a::", "::a:: do ::a:: end", "::a:: while b do if c then ::a:: end end",
		"::a:: f(function() end) ::a::", "f(function() ::a:: do ::a:: end end)", "do ::b:: ::a:: repeat ::a:: until b end",
		"::a:: for i = 1, 2 do ::a:: end", "::a:: for i in b do ::a:: end", "::a:: if b then else ::a:: end",
	} {
		wantFault(t, text, api.ErrTwice, 1)
	}
	for _, text := range []string{
		"goto a", "goto a ::b::", "do ::a:: end goto a", "goto a do ::a:: end", "if b then ::a:: else goto a end",
		"::a:: f(function() goto a end)", "f(function() ::a:: end) goto a", "f(function() goto a end) ::a::",
		"while b do ::a:: end goto a", "repeat ::a:: until b goto a", "::A:: goto a",
		"local a goto a", "f(function() goto a end, function() ::a:: end)",
	} {
		wantFault(t, text, api.ErrLabel, 1)
	}
}

// P8.1: a break is of a loop of its own function.
func TestBreaks(t *testing.T) {
	wantNone(t,
		"while a do break end", "repeat break until a", "for i = 1, 2 do break end", "for i in a do break end",
		"while a do do if b then break end end end", "f(function() while a do break end end)",
		"while a do if b then else break end break end",
	)
	for _, text := range []string{
		"break", "do break end", "if a then break end", "while a do end break", "repeat until a break",
		"while a do f(function() break end) end", "repeat until f(function() break end)", "for i = function() break end, 1 do end",
		"f(function() break end)", "while a do while b do end end break", "for i in function() break end do end",
	} {
		wantFault(t, text, api.ErrBreak, 1)
	}
}

// P8.1: ... is of its own function, which must have more.
func TestDots(t *testing.T) {
	wantNone(t, "return ...", "f(function(...) return ... end)", "f(function(a, ...) return {...} end)", "f(function() f(function(...) f(...) end) end)", "while ... do end")
	for _, text := range []string{
		"f(function() return ... end)", "f(function(...) f(function() return ... end) end)", "local function f(a) return (...) end",
		"function f() f(function(...) end, ...) end", "function a:b() return {...} end",
	} {
		wantFault(t, text, api.ErrDots, 1)
	}
}

// P8.1: the Line of each statement, which is that of its node.
func TestLines(t *testing.T) {
	wantRoot(t, "\nlocal\na\n=\n1\nwhile\nb\ndo\nc()\nend\nrepeat\nd\n=\n2\nuntil\ne",
		"local 0 = 1 > 1 @2", "test = $b > 2 / 4 @6", "call = call($c) > 3 @9", "jump > 1 @6",
		"assign $d = 2 > 5 @12", "test = $e > -1 / 6 @11", "jump > 4 @11")
	wantRoot(t, "if\na then\nb()\nelseif c then\nelse\nd()\nend",
		"test = $a > 1 / 3", "call = call($b) > 2 @3", "jump > -1", "test = $c > 4 / 5", "jump > -1", "call = call($d) > -1 @6")
	wantRoot(t, "\nfor i =\n1, 2 do\nbreak\nend\n\nfor k\nin a do\ngoto b\n::b::\nend",
		"forprep 0 = 1, 2 > 1 @2", "forloop 0 3 > 2 / 4 @2", "jump > 4 @4", "jump > 1 @2",
		"inprep 0 = $a > 5 @7", "inloop 0 3 > 6 / -1 @7", "jump > 7 @9", "jump > 5 @7")
	wantRoot(t, "\nlocal\nfunction f() end\nfunction\ng() end\nf\n:m()\nreturn\n1",
		"func 0 = f1 > 1 @2", "assign $g = f2 > 2 @4", "call = :m(s0) > 3 @6", "return = 1 > -1 @8")
}

// P8.1: the Line of each fault.
func TestFaultLines(t *testing.T) {
	vars := strings.Join(numbered("v", 1, 119), ",")
	for _, c := range []struct {
		text string
		err  api.Errno
		line int
	}{
		{"\nwhile a do\nend\nbreak", api.ErrBreak, 4},
		{"f(function()\nreturn\n...\nend)", api.ErrDots, 3},
		{"::a::\n::a::", api.ErrTwice, 2},
		{"\n::a::\ndo\n::\na::\nend", api.ErrTwice, 4},
		{"\n\ngoto\na", api.ErrLabel, 3},
		{"\ngoto a\nlocal x\n::a::\nz()", api.ErrInto, 2},
		{"local " + vars + "\n\nlocal\nx\nlocal\ny", api.ErrLong, 5},
		{"local " + vars + "\n\nlocal\nx\n,\ny", api.ErrLong, 3},
		{"local " + vars + "\nlocal x\nlocal\nfunction y() end", api.ErrLong, 3},
		{"local " + vars + "\nfor\ni =\n1,\n2 do end", api.ErrLong, 2},
		{"local " + vars + "\nfor\ni in\nf\n do end", api.ErrLong, 2},
		{"return\nfunction(" + vars + "\n,\nx, y) end", api.ErrLong, 2},
		{"\nlocal\nfunction f(" + vars + "\n,\nx, y) end", api.ErrLong, 3},
		{"\na.b\n=\nfunction(" + vars + "\n,\nx, y) end", api.ErrLong, 4},
		{times(199, "f(function() end)\n") + "a =\nfunction() end b =\nfunction() end", api.ErrLong, 201},
		{times(200, "f(function() end)\n") + "local\nfunction f() end", api.ErrLong, 200},
	} {
		wantFault(t, c.text, c.err, c.line)
	}
}

// P8.1: of two faults the one that stands ahead counts; but those of gotos come behind all others, in their order.
func TestFirst(t *testing.T) {
	many := "local " + strings.Join(numbered("v", 1, 121), ",")
	faults := []struct {
		text string
		err  api.Errno
	}{
		{"do " + many + " end", api.ErrLong},
		{"f(function() return ... end)", api.ErrDots},
		{"do break end", api.ErrBreak},
		{"do ::t:: ::t:: end", api.ErrTwice},
		{"do goto none end", api.ErrLabel},
		{"do goto i local x ::i:: z() end", api.ErrInto},
	}
	isGoto := func(err api.Errno) bool { return err == api.ErrLabel || err == api.ErrInto }
	for _, a := range faults {
		wantFault(t, a.text, a.err, 1)
		for _, b := range faults {
			want, line := a.err, 1
			if isGoto(a.err) && !isGoto(b.err) {
				want, line = b.err, 3
			}
			wantFault(t, a.text+"\n\n"+b.text, want, line)
			if want, line = a.err, 1; isGoto(a.err) && !isGoto(b.err) {
				want, line = b.err, 2
			}
			wantFault(t, "if x then "+a.text+"\nf(function() "+b.text+" end) end", want, line)
		}
	}
	// Within one node: what it has ahead of its kids, and variables behind expressions.
	wantFault(t, "f(function()\n"+many+" =\n... end)", api.ErrDots, 3)
	wantFault(t, "f(function() for\n"+strings.Join(numbered("v", 1, 121), ",")+"\nin ... do end end)", api.ErrDots, 3)
	wantFault(t, "f(function()\nfor "+strings.Join(numbered("v", 1, 121), ",")+"\nin f do break f(...) end end)", api.ErrLong, 2)
	wantFault(t, "f(\nfunction("+strings.Join(numbered("v", 1, 121), ",")+")\nbreak end)", api.ErrLong, 2)
	wantFault(t, many[:len(many)-5]+"\nlocal\nfunction f()\nbreak end", api.ErrLong, 2)
	wantFault(t, times(199, "f(function() end)")+strings.ReplaceAll(many, ",v121", "")+"\nlocal\nfunction f() end", api.ErrLong, 2)
	wantFault(t, "f(function() repeat\nbreak until\n... end)", api.ErrDots, 3)
	wantFault(t, "goto a f(function() goto\nb end)\n::a:: ::a::", api.ErrTwice, 3)
	wantFault(t, "f(function()\ngoto b end)\ngoto a", api.ErrLabel, 2)
	wantFault(t, "goto a\nf(function() goto b end) local x ::a:: z()", api.ErrInto, 1)
	wantFault(t, "do\ngoto b end\ngoto a local x ::a:: z()", api.ErrLabel, 2)
}

// P8.1, limits: 200 functions, side by side and in one another.
func TestManyFunctions(t *testing.T) {
	if p := program(t, times(199, "f(function() end) ")); len(p.Protos) != 200 || len(p.Strs) != 1 {
		t.Error(len(p.Protos), p.Strs)
	}
	wantFault(t, times(199, "f(function() end) ")+"\nf(function() end)", api.ErrLong, 2)
	deep := func(count int) string { return times(count, "return function() ") + times(count, " end ") }
	if p := program(t, times(4, "do "+deep(45)+" end ")+times(19, "f(function() end) ")); len(p.Protos) != 200 {
		t.Error(len(p.Protos))
	}
	wantFault(t, times(4, "do "+deep(45)+" end ")+times(18, "f(function() end) ")+"f(function() f(\nfunction() end) end)", api.ErrLong, 2)
	wantFault(t, times(198, "f(function() end) ")+"f(function() f(\nfunction() break end) end)", api.ErrLong, 2)
}

// P8.1, limits: 120 variables at once, of each kind.
func TestManyVariables(t *testing.T) {
	locals := func(from, to int) string { return "local " + strings.Join(numbered("v", from, to), ",") }
	if p := program(t, locals(1, 120)+" return v1, v120"); p.Protos[0].Slots != 120 {
		t.Error(p.Protos[0].Slots)
	}
	params := func(count int) string { return "f(function(" + strings.Join(numbered("v", 1, count), ",") }
	wantNone(t,
		times(120, "local x "), params(120)+") end)", params(120)+", ...) end)", locals(1, 119)+" local function x() end",
		locals(1, 116)+" for i = 1, 2 do end", locals(1, 116)+" for i in f do end", locals(1, 110)+" for a, b, c, d, e, f, g in f do end",
		locals(1, 115)+" for i = 1, 2 do local x end local a, b, c, d, e",
		"do "+locals(1, 120)+" end "+locals(1, 120), "repeat "+locals(1, 120)+" until v120", locals(1, 60)+" do "+locals(61, 120)+" end "+locals(61, 120),
		locals(1, 120)+" f(function() "+locals(1, 120)+" end)", params(60)+") "+locals(1, 60)+" end)",
	)
	for _, text := range []string{
		locals(1, 121), locals(1, 200), locals(1, 120) + " local x", times(121, "local x "), params(121) + ") end)", params(121) + ", ...) end)",
		params(120) + ") local x end)", locals(1, 120) + " local function x() end", locals(1, 120) + " do local x end",
		locals(1, 117) + " for i = 1, 2 do end", locals(1, 118) + " for i = 1, 2 do end", locals(1, 120) + " for i = 1, 2 do end",
		locals(1, 117) + " for i in f do end", locals(1, 111) + " for a, b, c, d, e, f, g in f do end", locals(1, 116) + " for i in f do local x end",
		"repeat " + locals(1, 120) + " local x until v120", locals(1, 60) + " do " + locals(61, 121) + " end",
		"for i = 1, 2 do " + locals(1, 117) + " end", "f(function() " + locals(1, 121) + " end)",
	} {
		wantFault(t, text, api.ErrLong, 1)
	}
}

// P8.1, limits: 60 Ups of a function, its own and those of functions within.
func TestManyUps(t *testing.T) {
	names := func(from, to int) string { return strings.Join(numbered("v", from, to), ",") }
	locals := "local " + names(1, 61) + "\n"
	p := program(t, locals+"f(function() return "+names(1, 60)+","+names(1, 60)+" end)")
	if len(p.Protos[1].Ups) != 60 || slices.Contains(p.Protos[0].Boxed[:60], false) || p.Protos[0].Boxed[60] {
		t.Error(p.Protos[1].Ups, p.Protos[0].Boxed)
	}
	wantNone(t,
		locals+"f(function() return "+names(1, 60)+" end, function() return "+names(2, 61)+" end)",
		locals+"f(function() f(function() return "+names(1, 60)+" end) return "+names(1, 60)+" end)",
		locals+"f(function() local w f(function() return w, "+names(1, 59)+" end) return "+names(1, 60)+" end)",
		locals+"f(function() return "+names(1, 60)+", w61, f, x end)",
		"local a local function b() "+locals+" f(function() return "+names(1, 59)+", a end) end",
	)
	wantFault(t, locals+"f(function() return "+names(1, 60)+",\nv61 end)", api.ErrLong, 3)
	wantFault(t, locals+"f(function() return "+names(1, 60)+"\nend,\nfunction() return "+names(1, 60)+",\nv61 end)", api.ErrLong, 5)
	// One of the function between, by a function within it; one of that alone.
	wantFault(t, locals+"f(function() f(function() return "+names(1, 30)+" end) return "+names(31, 60)+",\nv61 end)", api.ErrLong, 3)
	wantFault(t, locals+"f(function() f("+names(1, 60)+",\nfunction() return\nv61 end) end)", api.ErrLong, 4)
	wantFault(t, locals+"f(function() local w f(function() f("+names(1, 60)+",\nw) end) end)", api.ErrLong, 3)
	wantFault(t, locals+"f(function() f(function() v61 = 1 end, "+names(1, 59)+")\nv60 = 1 end)", api.ErrLong, 3)
}

// P8.1, limits: texts that are as great, and as deep, as a right one may be.
func TestGreat(t *testing.T) {
	wantNone(t,
		"return a"+times(2045, ".b"), "return a"+times(4090, "()"), "return "+times(2045, "a + ")+"a",
		"return {"+times(2045, "a,")+"}", times(1364, "while a do end "), times(2040, "do end "),
		times(96, "do ")+"x()"+times(96, " end"), times(48, "while a do repeat ")+"break"+times(48, " until b end"),
		times(48, "return function() ")+times(48, " end"), "x("+strings.Join(numbered("a", 1, 200), ",")+")",
		"return "+times(97, "(")+"a"+times(97, ")"),
	)
	var labels, gotos strings.Builder
	for i := range 2000 {
		fmt.Fprintf(&labels, "::l%d:: ", i)
		fmt.Fprintf(&gotos, "goto l%d ", i)
	}
	wantNone(t, labels.String()+gotos.String(), gotos.String()+labels.String(), gotos.String()+"x() "+labels.String()+"z()")
	wantFault(t, gotos.String()+"local x "+labels.String()+"z()", api.ErrInto, 1)
}

// P8.1: variables without end behind a fault.
func TestFarBehind(t *testing.T) {
	names := numbered("v", 1, 200)
	var stats []*part
	for i := range 1000 {
		stats = append(stats, local(names).line(i+1), calls(name("f")))
	}
	s := lay(text(stats...))
	if p, fault := flow.Resolve(s); fault != (api.Fault{Err: api.ErrLong, Line: 1}) || len(p.Protos)+len(p.Strs) > 0 {
		t.Error(fault)
	}
}
