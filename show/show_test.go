package show_test

import (
	"fmt"
	"math"
	"math/rand"
	"slices"
	"strings"
	"testing"

	"twinstep/api"
	"twinstep/lex"
	"twinstep/nodes"
	"twinstep/parse"
	"twinstep/show"
)

// short tells a text shortly.
func short(text string) string {
	if len(text) > 600 {
		return text[:300] + " .. " + text[len(text)-300:]
	}
	return text
}

// wantText asks for this text, whatever the order of the list is, and for s as it was; and for what follows (P7.2).
func wantText(t *testing.T, s api.Syntax, want string) {
	t.Helper()
	for i, o := range orders(rand.New(rand.NewSource(7)), s) {
		before := whole(copied(o))
		got, err := show.Show(o)
		if err != api.OK || got != want {
			t.Fatalf("order %d: Show:\n%s %v, want\n%s", i, short(got), err, short(want))
		}
		if whole(o) != before {
			t.Fatalf("order %d: %s: it was changed", i, short(want))
		}
	}
	wantBack(t, s, want)
}

// wantBack asks of the text of s that it says the same, and is told again (P7.2); and that all of it is of one line.
func wantBack(t *testing.T, s api.Syntax, text string) {
	t.Helper()
	back, fault := parse.Parse(text)
	if fault != (api.Fault{}) {
		t.Fatalf("Parse(%s): %v", short(text), fault)
	}
	if !nodes.Same(s, back) {
		t.Fatalf("Parse(%s) does not say the same", short(text))
	}
	if again, err := show.Show(back); again != text || err != api.OK {
		t.Fatalf("Show again:\n%s %v, want\n%s", short(again), err, short(text))
	}
	for _, n := range back.Nodes {
		if n.Line != 1 {
			t.Fatalf("%s: a node of line %d", short(text), n.Line)
		}
	}
}

// wantStat asks for the text of one statement, without the ; behind it, alone and with others around it.
func wantStat(t *testing.T, p part, want string) {
	t.Helper()
	wantText(t, lay(text(p)), want+" ;")
	wantText(t, lay(text(breaks(), do(p), breaks())), "break ; do "+want+" ; end ; break ;")
	if p.Kind != api.NReturn {
		wantText(t, lay(text(p, p)), want+" ; "+want+" ;")
	}
}

// wantValue asks for the text of an expression where it stands in statements, in lists and in tables.
func wantValue(t *testing.T, p part, want string) {
	t.Helper()
	wantText(t, lay(text(returns(p))), "return "+want+" ;")
	wantText(t, lay(text(assign(1, a(), p, p))), "a = "+want+" , "+want+" ;")
	wantText(t, lay(text(calls(a(), p, table(item(p), named(p, p)), paren(p)))),
		"a ( "+want+" , { "+want+" , [ "+want+" ] = "+want+" } , ( "+want+" ) ) ;")
	wantText(t, lay(text(of(api.NWhile, p, block()), of(api.NRepeat, block(), p))), "while "+want+" do end ; repeat until "+want+" ;")
	wantText(t, lay(text(local([]string{"x"}, index(a(), p)))), "local x = a [ "+want+" ] ;")
}

// wantErr asks for an error, for nothing beside it, and for s as it was.
func wantErr(t *testing.T, what string, s api.Syntax, want api.Errno) {
	t.Helper()
	before := whole(s)
	if got, err := show.Show(s); err != want || got != "" {
		t.Errorf("%s: Show: %q %v, want %v", what, short(got), err, want)
	}
	if whole(s) != before {
		t.Errorf("%s: it was changed", what)
	}
}

// Chapter 7, examples.
func TestExamples(t *testing.T) {
	for text, want := range map[string]string{
		"x=1": "x = 1 ;",
		"a.b:c'd' local function f(x,...) return -x end": `a [ "b" ] : c ( "d" ) ; local function f ( x , ... ) return - x ; end ;`,
		"x={1,y=0xffffffffffffffff}":                     `x = { 1 , [ "y" ] = 0xffffffffffffffff } ;`,
		"if a then b() else end":                         "if a then b ( ) ; else end ;",
	} {
		wantParsed(t, text, want)
	}
	wantErr(t, "no nodes", api.Syntax{}, api.ErrTree)
}

// wantParsed asks for the text of what a text says.
func wantParsed(t *testing.T, text, want string) {
	t.Helper()
	s, fault := parse.Parse(text)
	if fault != (api.Fault{}) {
		t.Fatalf("Parse(%s): %v", text, fault)
	}
	wantText(t, s, want)
}

// P7.1, statements: each kind, with and without each part that it may lack.
func TestStatements(t *testing.T) {
	f, nothing := function(0), block()
	for _, c := range []struct {
		p    part
		want string
	}{
		{local([]string{"x"}), "local x"},
		{local([]string{"x", "y", "z"}), "local x , y , z"},
		{local([]string{"x"}, number(1)), "local x = 1"},
		{local([]string{"x", "y"}, a()), "local x , y = a"},
		{local([]string{"x"}, a(), b(), c()), "local x = a , b , c"},
		{assign(1, a(), number(1)), "a = 1"},
		{assign(2, a(), b(), number(1)), "a , b = 1"},
		{assign(1, a(), number(1), number(2)), "a = 1 , 2"},
		{assign(3, index(a(), b()), c(), index(call(a()), b()), a(), of(api.NDots)), "a [ b ] , c , a ( ) [ b ] = a , ..."},
		{assign(1, index(paren(a()), b()), c()), "( a ) [ b ] = c"},
		{calls(a()), "a ( )"},
		{calls(a(), b()), "a ( b )"},
		{calls(a(), b(), c()), "a ( b , c )"},
		{of(api.NCallStat, method(a())), "a : m ( )"},
		{of(api.NCallStat, method(a(), b(), c())), "a : m ( b , c )"},
		{do(), "do end"},
		{do(breaks(), breaks()), "do break ; break ; end"},
		{of(api.NWhile, a(), nothing), "while a do end"},
		{of(api.NWhile, a(), block(breaks())), "while a do break ; end"},
		{of(api.NRepeat, nothing, a()), "repeat until a"},
		{of(api.NRepeat, block(breaks(), do()), a()), "repeat break ; do end ; until a"},
		{of(api.NIf, a(), nothing), "if a then end"},
		{of(api.NIf, a(), block(breaks())), "if a then break ; end"},
		{of(api.NIf, a(), nothing, nothing), "if a then else end"},
		{of(api.NIf, a(), nothing, block(breaks())), "if a then else break ; end"},
		{of(api.NIf, a(), nothing, b(), nothing), "if a then elseif b then end"},
		{of(api.NIf, a(), block(breaks()), b(), block(do()), c(), block(breaks(), breaks())), "if a then break ; elseif b then do end ; elseif c then break ; break ; end"},
		{of(api.NIf, a(), nothing, b(), nothing, c(), nothing, block(breaks())), "if a then elseif b then elseif c then else break ; end"},
		{of(api.NIf, a(), nothing, block(of(api.NIf, b(), nothing, nothing))), "if a then else if b then else end ; end"},
		{of(api.NFor, number(1), number(2), nothing).names("i"), "for i = 1 , 2 do end"},
		{of(api.NFor, number(1), number(2), number(3), block(breaks())).names("i"), "for i = 1 , 2 , 3 do break ; end"},
		{of(api.NForIn, a(), nothing).names("i"), "for i in a do end"},
		{of(api.NForIn, a(), b(), c(), block(breaks())).names("i", "j", "k"), "for i , j , k in a , b , c do break ; end"},
		{of(api.NLocalFunc, f).names("f"), "local function f ( ) end"},
		{of(api.NLocalFunc, function(1, breaks())).names("f"), "local function f ( ... ) break ; end"},
		{of(api.NLocalFunc, f.names("x")).names("f"), "local function f ( x ) end"},
		{of(api.NLocalFunc, function(1).names("x", "y")).names("f"), "local function f ( x , y , ... ) end"},
		{of(api.NLocalFunc, function(0, of(api.NLocalFunc, f.names("z")).names("g"))).names("f"), "local function f ( ) local function g ( z ) end ; end"},
		{returns(), "return"},
		{returns(a()), "return a"},
		{returns(a(), b(), number(3)), "return a , b , 3"},
		{breaks(), "break"},
		{of(api.NGoto).name("l"), "goto l"},
		{of(api.NLabel).name("l"), ":: l ::"},
	} {
		wantStat(t, c.p, c.want)
	}
}

// P7.1, expressions: each kind, with and without each part that it may lack.
func TestExpressions(t *testing.T) {
	for _, c := range []struct {
		p    part
		want string
	}{
		{of(api.NNil), "nil"},
		{of(api.NTrue), "true"},
		{of(api.NFalse), "false"},
		{number(7), "7"},
		{str("s"), `"s"`},
		{of(api.NDots), "..."},
		{function(0), "function ( ) end"},
		{function(1), "function ( ... ) end"},
		{function(0, breaks()).names("x"), "function ( x ) break ; end"},
		{function(0, returns()).names("x", "y", "x"), "function ( x , y , x ) return ; end"},
		{function(1, returns(a())).names("x", "y"), "function ( x , y , ... ) return a ; end"},
		{a(), "a"},
		{name("_Z9"), "_Z9"},
		{index(a(), b()), "a [ b ]"},
		{index(a(), str("b")), `a [ "b" ]`},
		{index(index(a(), str("b")), number(1)), `a [ "b" ] [ 1 ]`},
		{index(a(), index(b(), c())), "a [ b [ c ] ]"},
		{call(a()), "a ( )"},
		{call(a(), b()), "a ( b )"},
		{call(a(), b(), c(), number(1)), "a ( b , c , 1 )"},
		{call(a(), str("s")), `a ( "s" )`},
		{call(a(), table()), "a ( { } )"},
		{call(call(a()), call(b())), "a ( ) ( b ( ) )"},
		{method(a()), "a : m ( )"},
		{method(a(), b()), "a : m ( b )"},
		{method(a(), b(), c()).name("n"), "a : n ( b , c )"},
		{method(method(a(), str("s")), table(item(b()))).name("n"), `a : m ( "s" ) : n ( { b } )`},
		{call(paren(function(0)), a()), "( function ( ) end ) ( a )"},
		{method(paren(str("s"))), `( "s" ) : m ( )`},
		{of(api.NAnd, a(), b()), "a and b"},
		{of(api.NOr, a(), b()), "a or b"},
		{un(api.Neg, a()), "- a"},
		{un(api.Not, a()), "not a"},
		{un(api.Len, a()), "# a"},
		{un(api.Bnot, a()), "~ a"},
		{table(), "{ }"},
		{table(item(a())), "{ a }"},
		{table(item(a()), item(b()), item(of(api.NDots))), "{ a , b , ... }"},
		{table(named(a(), b())), "{ [ a ] = b }"},
		{table(named(str("y"), number(1)), item(a()), named(number(1), b())), `{ [ "y" ] = 1 , a , [ 1 ] = b }`},
		{table(item(table()), item(table(item(table())))), "{ { } , { { } } }"},
		{table(item(bin(api.Eq, a(), b()))), "{ a == b }"},
		{paren(a()), "( a )"},
		{paren(paren(of(api.NDots))), "( ( ... ) )"},
	} {
		wantValue(t, c.p, c.want)
	}
	for op, mark := range map[api.Op]string{
		api.Add: "+", api.Sub: "-", api.Mul: "*", api.Div: "//", api.Mod: "%", api.Band: "&", api.Bor: "|", api.Bxor: "~", api.Shl: "<<",
		api.Shr: ">>", api.Concat: "..", api.Eq: "==", api.Ne: "~=", api.Lt: "<", api.Le: "<=", api.Gt: ">", api.Ge: ">=",
	} {
		wantValue(t, bin(op, a(), number(1)), "a "+mark+" 1")
	}
}

// P7.1: what Parse tells of texts of every rule of the language.
func TestParsed(t *testing.T) {
	for _, c := range [][2]string{
		{"", ""},
		{" ; ;--note\n", ""},
		{"break;;goto l ::l::", "break ; goto l ; :: l :: ;"},
		{"while x do ; break end", "while x do break ; end ;"},
		{"do do end do return end end", "do do end ; do return ; end ; end ;"},
		{"repeat local z=1 until z==1", "repeat local z = 1 ; until z == 1 ;"},
		{"if x then elseif y then break elseif z then else f() end", "if x then elseif y then break ; elseif z then else f ( ) ; end ;"},
		{"for i=1,2 do end for i=1,2,3 do break end", "for i = 1 , 2 do end ; for i = 1 , 2 , 3 do break ; end ;"},
		{"for i,j,k in pairs(t),nil do end", "for i , j , k in pairs ( t ) , nil do end ;"},
		{"function f() end", "f = function ( ) end ;"},
		{"function a.b.c(x) return x end", `a [ "b" ] [ "c" ] = function ( x ) return x ; end ;`},
		{"function a.b:c(x,...) end", `a [ "b" ] [ "c" ] = function ( self , x , ... ) end ;`},
		{"function a:c() end", `a [ "c" ] = function ( self ) end ;`},
		{"function f(...) return ... end", "f = function ( ... ) return ... ; end ;"},
		{"local function f() return f end", "local function f ( ) return f ; end ;"},
		{"local x local y,z=1", "local x ; local y , z = 1 ;"},
		{"x,y.z,w[1]=1,2,3", `x , y [ "z" ] , w [ 1 ] = 1 , 2 , 3 ;`},
		{"f()[1],(g).x=h''", `f ( ) [ 1 ] , ( g ) [ "x" ] = h ( "" ) ;`},
		{"f's' f{} f{1}'s'(2)", `f ( "s" ) ; f ( { } ) ; f ( { 1 } ) ( "s" ) ( 2 ) ;`},
		{"f:m() f:m's' f:m{x=1}", `f : m ( ) ; f : m ( "s" ) ; f : m ( { [ "x" ] = 1 } ) ;`},
		{"a.b[c]:d(e).f(g)(h)", `a [ "b" ] [ c ] : d ( e ) [ "f" ] ( g ) ( h ) ;`},
		{"('x'):rep(3)", `( "x" ) : rep ( 3 ) ;`},
		{"return", "return ;"},
		{"return;", "return ;"},
		{"return 1,2;", "return 1 , 2 ;"},
		{"return nil,true,false,...", "return nil , true , false , ... ;"},
		{"return function(a,b) return a end", "return function ( a , b ) return a ; end ;"},
		{"return {},{1},{1,},{1;2}", "return { } , { 1 } , { 1 } , { 1 , 2 } ;"},
		{"return {[1]=2;y=3,z,}", `return { [ 1 ] = 2 , [ "y" ] = 3 , z } ;`},
		{"return {y==z,y=z}", `return { y == z , [ "y" ] = z } ;`},
		{"return ((1)),(f()),(...)", "return ( ( 1 ) ) , ( f ( ) ) , ( ... ) ;"},
		{"return a or b and c==d|e~f&g<<h..i+j*k", "return a or b and c == d | e ~ f & g << h .. i + j * k ;"},
		{"return-2 ..3 ..x", "return - 2 .. 3 .. x ;"},
		{"return(a..b)..c,a-b-c,a-(b-c)", "return ( a .. b ) .. c , a - b - c , a - ( b - c ) ;"},
		{"return not(a==b),not a==b,-(a..b),#a.b", `return not ( a == b ) , not a == b , - ( a .. b ) , # a [ "b" ] ;`},
		{"return 0x10,0XfF,007,9223372036854775807,0x8000000000000000", "return 16 , 255 , 7 , 9223372036854775807 , 0x8000000000000000 ;"},
		{"return[[\na\nb]],'\\x41\\z  b',\"'\"", `return "a\nb" , "Ab" , "'" ;`},
		{"return a.and_,b." + strings.Repeat("k", 70), `return a [ "and_" ] , b [ "` + strings.Repeat("k", 70) + `" ] ;`},
	} {
		wantParsed(t, c[0], c[1])
	}
}

// P7.1: an empty block, blocks of empty ones, and a text that has nothing.
func TestEmptyBlocks(t *testing.T) {
	wantText(t, lay(text()), "")
	wantText(t, lay(text(do())), "do end ;")
	wantText(t, lay(text(do(), do(), do())), "do end ; do end ; do end ;")
	wantText(t, lay(text(nest(5, do(), func(p part) part { return do(p, do()) }))),
		"do do do do do do end ; do end ; end ; do end ; end ; do end ; end ; do end ; end ; do end ; end ;")
	wantText(t, lay(text(do(returns()))), "do return ; end ;")
}

// P7.1: lines and the text's own ones are not told.
func TestLines(t *testing.T) {
	one := text(assign(1, a().line(9), number(1).line(8)).line(7), breaks().line(math.MaxInt)).line(3)
	wantText(t, lay(one), "a = 1 ; break ;")
	wantParsed(t, "\n\nx =\n1\n\n", "x = 1 ;")
}

// P7.1: numbers, which have 16 hex digits below 0.
func TestNumbers(t *testing.T) {
	for n, want := range map[int64]string{
		0: "0", 1: "1", 9: "9", 10: "10", 255: "255", 1 << 32: "4294967296",
		math.MaxInt64: "9223372036854775807", math.MaxInt64 - 1: "9223372036854775806",
		math.MinInt64: "0x8000000000000000", math.MinInt64 + 1: "0x8000000000000001", -1: "0xffffffffffffffff", -2: "0xfffffffffffffffe",
		-10: "0xfffffffffffffff6", -256: "0xffffffffffffff00", -1 << 32: "0xffffffff00000000", -0x123456789abcdef0: "0xedcba98765432110",
	} {
		wantValue(t, number(n), want)
		wantValue(t, un(api.Neg, number(n)), "- "+want)
		wantValue(t, bin(api.Sub, number(n), number(n)), want+" - "+want)
	}
}

// P7.1: texts of any bytes.
func TestTexts(t *testing.T) {
	for s, want := range map[string]string{
		"":               `""`,
		" ":              `" "`,
		`"`:              `"\""`,
		`'`:              `"'"`,
		`\`:              `"\\"`,
		`\"'`:            `"\\\"'"`,
		"\n":             `"\n"`,
		"\r":             `"\013"`,
		"\r\n\n\r":       `"\013\n\n\013"`,
		"\t\x00":         `"\009\000"`,
		"\x001":          `"\0001"`,
		"\x07\x30\x31":   `"\00701"`,
		`\065`:           `"\\065"`,
		`\n`:             `"\\n"`,
		"~\x7f":          `"~\127"`,
		"\x80\xff":       `"\128\255"`,
		"\xc3\xa4":       `"\195\164"`,
		"--[[":           `"--[["`,
		"a ; end ) ] }":  `"a ; end ) ] }"`,
		"  two  blanks ": `"  two  blanks "`,
		"]]]=]":          `"]]]=]"`,
	} {
		wantValue(t, str(s), want)
	}
	for i := range 256 {
		s := string([]byte{byte(i), '0', byte(i), byte(i), '"'})
		wantText(t, lay(text(returns(str(s)))), told(text(returns(str(s)))))
	}
}

// P7.1: names of each length, and those that begin with words of the language.
func TestNames(t *testing.T) {
	for _, s := range []string{"x", "_", "__", "A1", "end1", "End", "_nil", "nill", strings.Repeat("n", 60)} {
		wantStat(t, assign(1, name(s), name(s)), s+" = "+s)
		wantStat(t, local([]string{s, s}), "local "+s+" , "+s)
		wantStat(t, of(api.NGoto).name(s), "goto "+s)
		wantStat(t, of(api.NLabel).name(s), ":: "+s+" ::")
		wantStat(t, of(api.NCallStat, method(a()).name(s)), "a : "+s+" ( )")
		wantStat(t, of(api.NLocalFunc, function(1).names(s)).names(s), "local function "+s+" ( "+s+" , ... ) end")
	}
}

// P7.1: signs side by side are kept apart.
func TestSigns(t *testing.T) {
	marks := map[api.Op]string{api.Neg: "-", api.Not: "not", api.Len: "#", api.Bnot: "~"}
	for x, first := range marks {
		for y, second := range marks {
			wantValue(t, un(x, un(y, a())), first+" "+second+" a")
			wantValue(t, un(x, un(y, un(x, number(-1)))), first+" "+second+" "+first+" 0xffffffffffffffff")
		}
		for op := api.Add; op <= api.Ge; op++ {
			wantValue(t, bin(op, a(), un(x, b())), "a "+opMarks[op]+" "+first+" b")
		}
	}
	wantValue(t, bin(api.Sub, number(1), un(api.Neg, number(2))), "1 - - 2")
	wantValue(t, bin(api.Concat, number(1), number(2)), "1 .. 2")
	wantValue(t, bin(api.Concat, of(api.NDots), of(api.NDots)), "... .. ...")
	wantValue(t, index(a(), table(named(str("x"), a()))), `a [ { [ "x" ] = a } ]`)
	wantValue(t, bin(api.Bxor, a(), un(api.Bnot, un(api.Bnot, a()))), "a ~ ~ ~ a")
}

// P7.1: a statement that begins with a parenthesis, behind each other one: it does not go on with that.
func TestParentheses(t *testing.T) {
	nothing, start := block(), calls(paren(a()), b())
	for _, c := range []struct {
		p    part
		want string
	}{
		{start, "( a ) ( b )"},
		{assign(1, index(paren(a()), b()), c()), "( a ) [ b ] = c"},
		{of(api.NCallStat, method(paren(a()))), "( a ) : m ( )"},
		{local([]string{"x"}), "local x"},
		{local([]string{"x"}, a()), "local x = a"},
		{assign(1, a(), function(0)), "a = function ( ) end"},
		{assign(1, a(), str("s")), `a = "s"`},
		{calls(a()), "a ( )"},
		{do(), "do end"},
		{of(api.NRepeat, nothing, a()), "repeat until a"},
		{of(api.NGoto).name("l"), "goto l"},
		{of(api.NLabel).name("l"), ":: l ::"},
		{breaks(), "break"},
		{of(api.NLocalFunc, function(0)).names("f"), "local function f ( ) end"},
	} {
		wantText(t, lay(text(c.p, start)), c.want+" ; ( a ) ( b ) ;")
		wantText(t, lay(text(do(c.p, start), start)), "do "+c.want+" ; ( a ) ( b ) ; end ; ( a ) ( b ) ;")
	}
	wantStat(t, of(api.NIf, a(), block(start), b(), block(start), block(start)), "if a then ( a ) ( b ) ; elseif b then ( a ) ( b ) ; else ( a ) ( b ) ; end")
	wantStat(t, of(api.NRepeat, block(start), paren(a())), "repeat ( a ) ( b ) ; until ( a )")
	wantStat(t, of(api.NLocalFunc, function(0, start)).names("f"), "local function f ( ) ( a ) ( b ) ; end")
}

// P7.1: each two operators, taken together from the left and from the right, with and without parentheses: what does not fit without is not right.
func TestBinding(t *testing.T) {
	both := []part{of(api.NAnd, a(), b()), of(api.NOr, a(), b())}
	for op := api.Add; op <= api.Ge; op++ {
		both = append(both, bin(op, a(), b()))
	}
	with := func(p, first, second part) part { p.parts = []part{first, second}; return p }
	ask := func(p part, fits bool, want string) {
		t.Helper()
		if s := lay(text(returns(p))); fits {
			wantText(t, s, "return "+want+" ;")
		} else {
			wantErr(t, want, s, api.ErrTree)
		}
	}
	for _, x := range both {
		for _, y := range both {
			mark, other := tokens(x)[1], tokens(y)[1]
			left, right := binds(x), binds(x)+1
			if mark == ".." {
				left, right = right, left
			}
			ask(with(x, y, c()), binds(y) >= left, "a "+other+" b "+mark+" c")
			ask(with(x, c(), y), binds(y) >= right, "c "+mark+" a "+other+" b")
			ask(with(x, paren(y), c()), true, "( a "+other+" b ) "+mark+" c")
			ask(with(x, c(), paren(y)), true, "c "+mark+" ( a "+other+" b )")
		}
		for op := api.Neg; op <= api.Bnot; op++ {
			unary, mark := opMarks[op], tokens(x)[1]
			ask(un(op, x), false, unary+" a "+mark+" b")
			ask(un(op, paren(x)), true, unary+" ( a "+mark+" b )")
			ask(with(x, un(op, a()), un(op, b())), true, unary+" a "+mark+" "+unary+" b")
		}
	}
}

// P7.1: lists as long as they may be.
func TestLists(t *testing.T) {
	many, names := times(200, a()), times(200, "x")
	exprs, row := strings.Join(times(200, "a"), " , "), strings.Join(names, " , ")
	wantStat(t, local(names, many...), "local "+row+" = "+exprs)
	wantStat(t, assign(200, append(slices.Clone(many), many...)...), exprs+" = "+exprs)
	wantStat(t, of(api.NForIn, append(slices.Clone(many), block())...).names(names...), "for "+row+" in "+exprs+" do end")
	wantStat(t, of(api.NLocalFunc, function(1).names(names...)).names("f"), "local function f ( "+row+" , ... ) end")
	wantStat(t, calls(a(), many...), "a ( "+exprs+" )")
	wantStat(t, returns(method(a(), many...)), "return a : m ( "+exprs+" )")
	wantText(t, lay(text(returns(table(times(1000, item(a()))...)))), "return { "+strings.Join(times(1000, "a"), " , ")+" } ;")
	pairs := of(api.NIf, slices.Concat(times(200, []part{a(), block()})...)...)
	wantText(t, lay(text(pairs)), "if a then"+strings.Repeat(" elseif a then", 199)+" end ;")
}

// P7.1, P7.2: as many levels, and as many nodes, as there may be; one more is not right.
func TestDeep(t *testing.T) {
	for what, c := range map[string]struct {
		most      int
		base      part
		more      func(part) part
		open, end string
	}{
		"parentheses": {98, a(), paren, "( ", " )"},
		"signs":       {98, a(), func(p part) part { return un(api.Neg, p) }, "- ", ""},
		"keys":        {98, a(), func(p part) part { return index(b(), p) }, "b [ ", " ]"},
		"arguments":   {98, a(), func(p part) part { return call(b(), p) }, "b ( ", " )"},
		"tables":      {98, a(), func(p part) part { return table(item(p)) }, "{ ", " }"},
		"named keys":  {98, a(), func(p part) part { return table(named(p, b())) }, "{ [ ", " ] = b }"},
		"texts":       {98, a(), func(p part) part { return bin(api.Concat, b(), p) }, "b .. ", ""},
		"functions":   {49, a(), func(p part) part { return function(0, returns(p)) }, "function ( ) return ", " ; end"},
	} {
		for _, count := range []int{c.most, c.most + 1} {
			s := lay(text(returns(nest(count, c.base, c.more))))
			if count > c.most {
				wantErr(t, what, s, api.ErrTree)
				continue
			}
			wantText(t, s, "return "+strings.Repeat(c.open, count)+"a"+strings.Repeat(c.end, count)+" ;")
		}
	}
	deep := nest(99, breaks(), func(p part) part { return do(p) })
	wantText(t, lay(text(deep)), strings.Repeat("do ", 99)+"break ;"+strings.Repeat(" end ;", 99))
	wantErr(t, "blocks", lay(text(do(deep))), api.ErrTree)
	ifs := nest(98, calls(a()), func(p part) part { return of(api.NIf, a(), block(), block(p)) })
	wantText(t, lay(text(ifs)), strings.Repeat("if a then else ", 98)+"a ( ) ;"+strings.Repeat(" end ;", 98))
	wantErr(t, "else", lay(text(do(ifs))), api.ErrTree)
}

func TestManyNodes(t *testing.T) {
	for what, c := range map[string]struct {
		more func(part) part
		then string
	}{
		"sums":    {func(p part) part { return bin(api.Add, p, b()) }, " + b"},
		"ands":    {func(p part) part { return of(api.NAnd, p, b()) }, " and b"},
		"ors":     {func(p part) part { return of(api.NOr, p, b()) }, " or b"},
		"keys":    {func(p part) part { return index(p, number(1)) }, " [ 1 ]"},
		"calls":   {func(p part) part { return call(p, str("")) }, ` ( "" )`},
		"methods": {func(p part) part { return method(p, b()) }, " : m ( b )"},
	} {
		// A text, its block, a return, a name, and two nodes a round.
		wantText(t, lay(text(returns(nest(2046, a(), c.more)))), "return a"+strings.Repeat(c.then, 2046)+" ;")
		wantErr(t, what, lay(text(returns(nest(2047, a(), c.more)))), api.ErrTree)
	}
	wantText(t, lay(text(times(4094, breaks())...)), strings.Repeat("break ; ", 4093)+"break ;")
	wantErr(t, "breaks", lay(text(times(4095, breaks())...)), api.ErrTree)
	wantText(t, lay(text(times(2047, do())...)), strings.Repeat("do end ; ", 2046)+"do end ;")
	wantText(t, lay(text(append(times(2046, do()), breaks(), breaks())...)), strings.Repeat("do end ; ", 2046)+"break ; break ;")
}

// P7.1: texts of just the limit, and of a few bytes more, by each kind of what is at their ends.
func TestLimit(t *testing.T) {
	// A text alone may be no longer than the limit: a part of the bytes is in another one.
	fill := func(s string, p part) part {
		return text(assign(1, a(), str(strings.Repeat("y", 10000))), assign(1, a(), str(s)), p)
	}
	for what, c := range map[string]struct {
		s    string
		each int
	}{"bytes as themselves": {"x", 1}, "quotes": {`"`, 2}, "lines": {"\n", 2}, "noughts": {"\x00", 4}, "high ones": {"\xff", 4}} {
		for _, p := range []part{
			breaks(), do(), returns(), returns(a()), local([]string{"x"}), of(api.NGoto).name("label"), calls(a(), number(-1)),
			of(api.NRepeat, block(), str("text")), of(api.NIf, a(), block(), block()), of(api.NWhile, a(), block(do(), do())), returns(table(item(a()))),
		} {
			least := len(told(fill("", p)))
			for _, size := range []int{65533, 65534, 65535, 65536, 65537, 65538, 65539, 65540, 65545, 65550, 65560, 65600, 66000} {
				one := fill(strings.Repeat(c.s, (size-least)/c.each)+strings.Repeat("x", (size-least)%c.each), p)
				want := told(one)
				if len(want) != size {
					t.Fatal(what, len(want), size)
				}
				if size > api.MaxText {
					wantErr(t, what, lay(one), api.ErrLong)
				} else {
					wantText(t, lay(one), want)
				}
			}
		}
	}
	wantText(t, lay(text(returns(str(strings.Repeat("x", 65524))))), `return "`+strings.Repeat("x", 65524)+`" ;`)
	wantErr(t, "one text", lay(text(returns(str(strings.Repeat("x", 65525))))), api.ErrLong)
}

// P7.1: texts that are much too long, by each thing that may be long; of what is behind the limit nothing counts.
func TestMuchTooLong(t *testing.T) {
	long, names := str(strings.Repeat("\x00", api.MaxText)), times(200, strings.Repeat("n", api.MaxName))
	lists := of(api.NLocalFunc, function(1).names(names...)).names("f")
	for what, stats := range map[string][]part{
		"one text":    {returns(long)},
		"many texts":  times(1300, assign(1, a(), long)),
		"many names":  times(4000, local(names)),
		"many params": times(1300, lists),
		"many labels": times(4000, of(api.NLabel).name(names[0])),
		"deep":        {nest(90, breaks(), func(p part) part { return do(lists, p) })},
		"keys":        {returns(nest(2000, a(), func(p part) part { return index(p, long) }))},
	} {
		s := lay(text(stats...))
		if !nodes.Right(s) {
			t.Fatal(what, "is not right")
		}
		if got, err := show.Show(s); err != api.ErrLong || got != "" {
			t.Errorf("%s: Show: %q %v", what, short(got), err)
		}
	}
}

// wrongStats are statements that are not right, one for each way in which a node may be so.
func wrongStats() map[string]part {
	value := func(p part) part { return local([]string{"x"}, p) }
	one, many := []string{"v"}, times(201, a())
	out := map[string]part{
		"an NLocal without names":             of(api.NLocal, a()),
		"an NLocal with a block":              local(one, block()),
		"an NAssign of N 0":                   assign(0, a(), a()),
		"an NAssign of N 2 and two kids":      assign(2, a(), a()),
		"an NAssign of N -1":                  assign(-1, a(), a()),
		"an NAssign without values":           assign(1, a()),
		"an NAssign to a call":                assign(1, call(a()), a()),
		"an NAssign to an NParen":             assign(1, paren(a()), a()),
		"an NCallStat of a name":              of(api.NCallStat, a()),
		"an NCallStat of two":                 of(api.NCallStat, call(a()), call(a())),
		"an NDo without a block":              of(api.NDo),
		"an NDo of a statement":               of(api.NDo, breaks()),
		"an NWhile turned round":              of(api.NWhile, block(), a()),
		"an NRepeat turned round":             of(api.NRepeat, a(), block()),
		"an NIf without pairs":                of(api.NIf),
		"an NIf of a block":                   of(api.NIf, block()),
		"an NIf that ends with an expression": of(api.NIf, a(), block(), a()),
		"an NFor of one expression":           of(api.NFor, a(), block()).names("v"),
		"an NFor of four":                     of(api.NFor, a(), a(), a(), a(), block()).names("v"),
		"an NFor of two names":                of(api.NFor, a(), a(), block()).names("v", "w"),
		"an NForIn without names":             of(api.NForIn, a(), block()),
		"an NForIn without expressions":       of(api.NForIn, block()).names("v"),
		"an NForIn without a block":           of(api.NForIn, a()).names("v"),
		"an NLocalFunc of a name":             of(api.NLocalFunc, a()).names("v"),
		"an NLocalFunc without names":         of(api.NLocalFunc, function(0)),
		"an NReturn of a statement":           do(returns(breaks())),
		"an NReturn in the midst":             do(returns(), breaks()),
		"an NBreak with a kid":                of(api.NBreak, a()),
		"an NBreak with a Name":               breaks().name("l"),
		"an NBreak with Names":                breaks().names("l"),
		"an NBreak with N":                    breaks().n(1),
		"an NGoto without a Name":             of(api.NGoto),
		"an NLabel that is a word":            of(api.NLabel).name("end"),
		"an expression as a statement":        call(a()),
		"a block as a statement":              block(),
		"Line 0":                              breaks().line(0),
		"Line -1":                             value(a().line(-1)),
		"too many names":                      local(times(201, "v")),
		"too many expressions":                local(one, many...),
		"too many targets":                    assign(201, append(many, a())...),
		"too many values":                     assign(1, append([]part{a()}, many...)...),
		"too many arguments":                  calls(a(), many...),
		"too many bounds":                     of(api.NForIn, append(many, block())...).names("v"),
		"too many params":                     value(function(0).names(times(201, "v")...)),
		"kind 0":                              of(0),
		"kind 16":                             of(16),
		"kind 39":                             value(of(39)),
		"a statement as an expression":        value(breaks()),
		"an NItem as an expression":           value(item(a())),
		"an NInt with a Name":                 value(number(1).name("x")),
		"an NInt with a kid":                  value(of(api.NInt, a())),
		"an NStr that is too long":            value(str(strings.Repeat("x", api.MaxText+1))),
		"an NStr with N":                      value(str("s").n(1)),
		"an NName with N":                     value(a().n(1)),
		"an NDots with Names":                 value(of(api.NDots).names("x")),
		"an NFunc of N 2":                     value(function(2)),
		"an NFunc of N -1":                    value(function(-1)),
		"an NFunc without a block":            value(of(api.NFunc)),
		"an NFunc with a Name":                value(function(0).name("f")),
		"an NFunc with a param that is none":  value(function(0).names("...")),
		"an NIndex of a text":                 value(index(str("s"), a())),
		"an NIndex without a key":             value(of(api.NIndex, a())),
		"an NCall of a function":              value(call(function(0))),
		"an NCall of nothing":                 value(of(api.NCall)),
		"an NMethod of a table":               value(method(table())),
		"an NMethod without a Name":           value(method(a()).name("")),
		"an NBin of N 0":                      value(bin(0, a(), a())),
		"an NBin of N 18":                     value(bin(api.Neg, a(), a())),
		"an NBin of one":                      value(of(api.NBin, a()).n(1)),
		"an NBin of three":                    value(of(api.NBin, a(), a(), a()).n(1)),
		"an NAnd with N":                      value(of(api.NAnd, a(), a()).n(1)),
		"an NOr of one":                       value(of(api.NOr, a())),
		"an NUn of N 17":                      value(un(api.Ge, a())),
		"an NUn of N 22":                      value(un(22, a())),
		"an NUn of none":                      value(of(api.NUn).n(18)),
		"an NTable of a name":                 value(table(a())),
		"an NItem of two":                     value(table(of(api.NItem, a(), a()))),
		"an NNamed of one":                    value(table(of(api.NNamed, a()))),
		"an NParen of none":                   value(of(api.NParen)),
		"operands that do not fit":            value(bin(api.Mul, bin(api.Add, a(), b()), c())),
		"second operands that do not fit":     value(bin(api.Sub, a(), bin(api.Sub, b(), c()))),
		"texts that do not fit":               value(bin(api.Concat, bin(api.Concat, a(), b()), c())),
		"an operand of one that does not fit": value(un(api.Not, bin(api.Eq, a(), b()))),
		"a level too deep":                    value(nest(99, a(), paren)),
		"a block too deep":                    nest(100, breaks(), func(p part) part { return do(p) }),
	}
	for _, s := range []string{"", "1x", "nil", "a b", "a.b", "x\xc3", "-", strings.Repeat("n", 61)} {
		out[fmt.Sprintf("the name %q", s)] = value(name(s))
		out[fmt.Sprintf("the local %q", s)] = local([]string{"x", s})
		out[fmt.Sprintf("the method %q", s)] = value(method(a()).name(s))
	}
	return out
}

// wrongTies are ways in which a list of nodes, that is right, may become one that is not. The last nodes of it are a break, the block, the root.
func wrongTies() map[string]func(s *api.Syntax) {
	return map[string]func(s *api.Syntax){
		"Root -1":              func(s *api.Syntax) { s.Root = -1 },
		"Root behind the end":  func(s *api.Syntax) { s.Root = len(s.Nodes) },
		"Root is the block":    func(s *api.Syntax) { s.Root-- },
		"a root of N 0":        func(s *api.Syntax) { s.Nodes[s.Root].N = 0 },
		"a root with Names":    func(s *api.Syntax) { s.Nodes[s.Root].Names = []string{"x"} },
		"a root with a Name":   func(s *api.Syntax) { s.Nodes[s.Root].Name = "x" },
		"a root without Line":  func(s *api.Syntax) { s.Nodes[s.Root].Line = 0 },
		"a root without a kid": func(s *api.Syntax) { s.Nodes[s.Root].Kids = nil },
		"a root of two":        func(s *api.Syntax) { s.Nodes[s.Root].Kids = []int{s.Root - 1, s.Root - 2} },
		"a root that is a kid": func(s *api.Syntax) { s.Nodes[s.Root-1].Kids = append(s.Nodes[s.Root-1].Kids, s.Root) },
		"a block in itself":    func(s *api.Syntax) { s.Nodes[s.Root-1].Kids[0] = s.Root - 1 },
		"a kid twice":          func(s *api.Syntax) { s.Nodes[s.Root-1].Kids = append(s.Nodes[s.Root-1].Kids, s.Root-2) },
		"a kid behind the end": func(s *api.Syntax) { s.Nodes[s.Root-1].Kids[0] = len(s.Nodes) },
		"a kid -1":             func(s *api.Syntax) { s.Nodes[s.Root-1].Kids[0] = -1 },
		"a node of nobody":     func(s *api.Syntax) { s.Nodes = append(s.Nodes, api.Node{Kind: api.NBreak, Line: 1}) },
		"a ring of its own": func(s *api.Syntax) {
			at := len(s.Nodes)
			s.Nodes = append(s.Nodes, api.Node{Kind: api.NDo, Line: 1, Kids: []int{at + 1}}, api.Node{Kind: api.NBlock, Line: 1, Kids: []int{at}})
		},
		"no nodes": func(s *api.Syntax) { s.Nodes, s.Root = nil, 0 },
		"too many nodes": func(s *api.Syntax) {
			at := s.Root - 1
			for len(s.Nodes) <= api.MaxNodes {
				s.Nodes[at].Kids = append(s.Nodes[at].Kids, len(s.Nodes))
				s.Nodes = append(s.Nodes, api.Node{Kind: api.NBreak, Line: 1})
			}
		},
	}
}

// P7.1: what is not right is ErrTree, be its text too long or not.
func TestNotRight(t *testing.T) {
	long := assign(1, a(), str(strings.Repeat("x", api.MaxText)))
	wantErr(t, "too long", lay(text(long, breaks())), api.ErrLong)
	for what, p := range wrongStats() {
		wantErr(t, what, lay(text(p)), api.ErrTree)
		wantErr(t, what+", first", lay(text(p, breaks())), api.ErrTree)
		wantErr(t, what+", ahead of what is too long", lay(text(p, long)), api.ErrTree)
		wantErr(t, what+", behind what is too long", lay(text(long, p)), api.ErrTree)
	}
	for what, spoil := range wrongTies() {
		for _, stats := range [][]part{{breaks()}, {long, breaks()}} {
			s := lay(text(stats...))
			spoil(&s)
			wantErr(t, what, s, api.ErrTree)
		}
	}
}

// P7.1, P7.2: syntaxes by chance.
func TestByChance(t *testing.T) {
	for what, c := range map[string]struct{ rounds, fuel int }{"small": {6000, 12}, "middle": {1500, 80}, "large": {60, 800}} {
		t.Run(what, func(t *testing.T) {
			for seed := range c.rounds {
				g := &grower{r: rand.New(rand.NewSource(int64(seed))), fuel: c.fuel}
				one := g.text()
				if s := lay(one); nodes.Right(s) {
					wantText(t, s, told(one))
				} else {
					t.Fatal("what is put together by chance is not right:", told(one))
				}
			}
		})
	}
}

// P7.1: one blank between each two tokens, and none else but in texts.
func TestBlanks(t *testing.T) {
	for seed := range 300 {
		g := &grower{r: rand.New(rand.NewSource(int64(seed))), fuel: 40}
		one := g.text()
		got, err := show.Show(lay(one))
		if err != api.OK {
			t.Fatal(err)
		}
		found, fault := lex.Tokens(got)
		if want := tokens(one.parts[0]); fault != (api.Fault{}) || len(found) != len(want)+1 || got != strings.Join(want, " ") {
			t.Fatalf("%s: %v, %d tokens, want %d", short(got), fault, len(found), len(want)+1)
		}
	}
}

// P7.1: any nodes: no syntax makes Show panic, and what is told is told of right ones alone.
func TestGarbage(t *testing.T) {
	r := rand.New(rand.NewSource(7))
	for round := range 20000 {
		g := &grower{r: r, fuel: 8}
		s := lay(g.text())
		for range r.Intn(4) {
			n := &s.Nodes[r.Intn(len(s.Nodes))]
			switch r.Intn(5) {
			case 0:
				n.Kind = api.NodeKind(r.Intn(41))
			case 1:
				n.N = int64(r.Intn(30) - 3)
			case 2:
				n.Name = g.name()
			case 3:
				n.Kids = append(slices.Clone(n.Kids), r.Intn(len(s.Nodes)+2)-1)
			case 4:
				n.Kids = n.Kids[:r.Intn(len(n.Kids)+1)]
			}
		}
		got, err := show.Show(s)
		switch {
		case !nodes.Right(s):
			if err != api.ErrTree || got != "" {
				t.Fatal(round, got, err)
			}
		case err != api.OK:
			t.Fatal(round, err)
		default:
			wantBack(t, s, got)
		}
	}
}
