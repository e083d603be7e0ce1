package parse_test

import (
	"slices"
	"strconv"
	"strings"
	"testing"

	"twinstep/api"
	"twinstep/nodes"
	"twinstep/parse"
)

// parsed answers what a text of the language says, and looks at it (P6.2): it is right, kids are ahead of their nodes, the root is last.
func parsed(t *testing.T, text string) api.Syntax {
	t.Helper()
	s, fault := parse.Parse(text)
	if fault != (api.Fault{}) {
		t.Fatalf("Parse(%s): %v", shown(text), fault)
	}
	if !nodes.Right(s) || s.Root != len(s.Nodes)-1 {
		t.Fatalf("Parse(%s): right: %v, root %d of %d", shown(text), nodes.Right(s), s.Root, len(s.Nodes))
	}
	for i, n := range s.Nodes {
		if !slices.IsSorted(n.Kids) || slices.ContainsFunc(n.Kids, func(k int) bool { return k >= i }) {
			t.Fatalf("Parse(%s): node %d has the kids %v", shown(text), i, n.Kids)
		}
	}
	return s
}

// says asks for what the statements of a text are told as.
func says(t *testing.T, text, want string) {
	t.Helper()
	s := parsed(t, text)
	got := strings.TrimSuffix(strings.TrimPrefix(say(s, s.Root), "Func 1[Block["), "]]")
	if got != want {
		t.Errorf("Parse(%s) says\n%s, want\n%s", shown(text), got, want)
	}
}

// means asks for what an expression is told as.
func means(t *testing.T, expr, want string) {
	t.Helper()
	says(t, "return "+expr, "Return["+want+"]")
}

func fails(t *testing.T, text string, err api.Errno, line int) {
	t.Helper()
	wantFault(t, "", text, api.Fault{Err: err, Line: line})
}

func fine(t *testing.T, text string) {
	t.Helper()
	parsed(t, text)
}

// Chapter 6, examples.
func TestExamples(t *testing.T) {
	s := parsed(t, "x = 1")
	want := api.Syntax{Root: 4, Nodes: []api.Node{
		{Kind: api.NName, Name: "x", Line: 1}, {Kind: api.NInt, N: 1, Line: 1}, {Kind: api.NAssign, N: 1, Kids: []int{0, 1}, Line: 1},
		{Kind: api.NBlock, Kids: []int{2}, Line: 1}, {Kind: api.NFunc, N: 1, Kids: []int{3}, Line: 1},
	}}
	if sayAll(s) != sayAll(want) || !nodes.Same(s, want) {
		t.Error(sayAll(s))
	}
	lists(t, "a.b:c(1)", "Name@1 Str@1 Index@1 Int@1 Method@1 CallStat@1 Block@1 Func@1")
	says(t, "a.b:c(1)", `CallStat[Method c[Index[a "b"] 1]]`)
	for _, text := range []string{"x", "x = ", "f() = 1", "local 1", "end", "return 1 x", "1 + 2"} {
		fails(t, text, api.ErrSyntax, 1)
	}
	fails(t, "a.1", api.ErrNoFloat, 1)
	fails(t, "x =\n\n=", api.ErrSyntax, 3)
	means(t, "-2 .. 3 .. x", "((- 2) .. (3 .. x))")
}

// P6.1: each rule of the language, with and without its parts.
func TestStatements(t *testing.T) {
	for text, want := range map[string]string{
		"break":                    "Break",
		";;break;;":                "Break",
		"goto l":                   "Goto l",
		"::l::":                    "Label l",
		"goto l ::l:: ::m::":       "Goto l Label l Label m",
		"while x do end":           "While[x Block]",
		"while x do break f() end": "While[x Block[Break CallStat[Call[f]]]]",
		"do end":                   "Do[Block]",
		"do ; do break end end":    "Do[Block[Do[Block[Break]]]]",
		"repeat until x":           "Repeat[Block x]",
		"repeat local y until y":   "Repeat[Block[Local y] y]",
		"if x then end":            "If[x Block]",
		"if x then else end":       "If[x Block Block]",
		"if x then break elseif y then goto l end":                    "If[x Block[Break] y Block[Goto l]]",
		"if x then elseif y then elseif z then break else return end": "If[x Block y Block z Block[Break] Block[Return]]",
		"for i = 1, 2 do end":                                         "For i[1 2 Block]",
		"for i = 1, 2, 3 do break end":                                "For i[1 2 3 Block[Break]]",
		"for i in x do end":                                           "ForIn i[x Block]",
		"for i, j, k in x, y do break end":                            "ForIn i,j,k[x y Block[Break]]",
		"local x":                                                     "Local x",
		"local x, y":                                                  "Local x,y",
		"local x = 1":                                                 "Local x[1]",
		"local x, y = 1, 2, 3":                                        "Local x,y[1 2 3]",
		"x = 1":                                                       "Assign 1[x 1]",
		"x, y = 1":                                                    "Assign 2[x y 1]",
		"x, y.z, y[1], f().a, (x).b = ...":                            `Assign 5[x Index[y "z"] Index[y 1] Index[Call[f] "a"] Index[<x> "b"] dots]`,
		"x = 1, 2, 3":                                                 "Assign 1[x 1 2 3]",
		"local function f() end":                                      "LocalFunc f[Func[Block]]",
		"local function f(x, y) return x end":                         "LocalFunc f[Func x,y[Block[Return[x]]]]",
		"local function f(...) end":                                   "LocalFunc f[Func 1[Block]]",
		"local function f(x, ...) end":                                "LocalFunc f[Func 1 x[Block]]",
		"function f() end":                                            "Assign 1[f Func[Block]]",
		"function a.b() end":                                          `Assign 1[Index[a "b"] Func[Block]]`,
		"function a.b.c(x) end":                                       `Assign 1[Index[Index[a "b"] "c"] Func x[Block]]`,
		"function a:b() end":                                          `Assign 1[Index[a "b"] Func self[Block]]`,
		"function a.b:c(x, self, ...) end":                            `Assign 1[Index[Index[a "b"] "c"] Func 1 self,x,self[Block]]`,
		"function a.b.c.d:e(...) end":                                 `Assign 1[Index[Index[Index[Index[a "b"] "c"] "d"] "e"] Func 1 self[Block]]`,
		"f()":                                                         "CallStat[Call[f]]",
		"f(1, x)":                                                     "CallStat[Call[f 1 x]]",
		"f's'":                                                        `CallStat[Call[f "s"]]`,
		"f[[s]]":                                                      `CallStat[Call[f "s"]]`,
		"f{}":                                                         "CallStat[Call[f Table]]",
		"f:m()":                                                       "CallStat[Method m[f]]",
		"f:m(1, 2)":                                                   "CallStat[Method m[f 1 2]]",
		"f:m's'":                                                      `CallStat[Method m[f "s"]]`,
		"f:m{1}":                                                      "CallStat[Method m[f Table[Item[1]]]]",
		"(f)()":                                                       "CallStat[Call[<f>]]",
		"f(g)'s'{}:m()":                                               `CallStat[Method m[Call[Call[Call[f g] "s"] Table]]]`,
		"return":                                                      "Return",
		"return;":                                                     "Return",
		"return 1, x":                                                 "Return[1 x]",
		"return f();":                                                 "Return[Call[f]]",
		"do return end break":                                         "Do[Block[Return]] Break",
		"do return 1; end return 2":                                   "Do[Block[Return[1]]] Return[2]",
		"x = 1 y = 2":                                                 "Assign 1[x 1] Assign 1[y 2]",
		"local x local y":                                             "Local x Local y",
		"local x f()":                                                 "Local x CallStat[Call[f]]",
		"x = {} (y).z = 1":                                            `Assign 1[x Table] Assign 1[Index[<y> "z"] 1]`,
		"x = y; (z)()":                                                "Assign 1[x y] CallStat[Call[<z>]]",
		"x = function() end (z)()":                                    "Assign 1[x Func[Block]] CallStat[Call[<z>]]",
	} {
		says(t, text, want)
	}
}

// P6.1: a text without statements.
func TestEmpty(t *testing.T) {
	for _, text := range []string{"", ";", ";;;\n;", " \n", "--x", "--[[x]]"} {
		if s := parsed(t, text); say(s, s.Root) != "Func 1[Block]" {
			t.Error(shown(text), say(s, s.Root))
		}
	}
}

// P6.1: an ( goes on with the prefix ahead, whatever line it is of; texts and tables do, too.
func TestGoesOn(t *testing.T) {
	says(t, "f\n(g)\n()", "CallStat[Call[Call[f g]]]")
	says(t, "x = f\n\n(g).y", `Assign 1[x Index[Call[f g] "y"]]`)
	fails(t, "x = f\n(g).y = 1", api.ErrSyntax, 2)
	says(t, "x = f\n's'\n{}\ny = 1", `Assign 1[x Call[Call[f "s"] Table]] Assign 1[y 1]`)
	says(t, "local x = y\n[1]\n.z\n:m()", `Local x[Method m[Index[Index[y 1] "z"]]]`)
	says(t, "local x\n(y).z = 1", `Local x Assign 1[Index[<y> "z"] 1]`)
	says(t, "x = 1\n(y).z = 1", `Assign 1[x 1] Assign 1[Index[<y> "z"] 1]`)
	says(t, "goto l (y)()", "Goto l CallStat[Call[<y>]]")
	says(t, "repeat until x\n(y)", "Repeat[Block Call[x y]]")
}

func TestExpressions(t *testing.T) {
	for expr, want := range map[string]string{
		"nil":                          "nil",
		"true, false":                  "true false",
		"...":                          "dots",
		"7":                            "7",
		"9223372036854775807":          "9223372036854775807",
		"0xffffffffffffffff":           "-1",
		"'a\\n'":                       `"a\n"`,
		"''":                           `""`,
		"[==[x]]y]==]":                 `"x]]y"`,
		"x":                            "x",
		"(x)":                          "<x>",
		"((1 + 2))":                    "<<(1 + 2)>>",
		"(f())":                        "<Call[f]>",
		"x.y":                          `Index[x "y"]`,
		"x['y']":                       `Index[x "y"]`,
		"x[1][y]":                      "Index[Index[x 1] y]",
		"x.y.z":                        `Index[Index[x "y"] "z"]`,
		"x[y.z]":                       `Index[x Index[y "z"]]`,
		"('s'):m()":                    `Method m[<"s">]`,
		"x.f(1).g{2}:h's'":             `Method h[Call[Index[Call[Index[x "f"] 1] "g"] Table[Item[2]]] "s"]`,
		"f(g(), h(i(), ...))":          "Call[f Call[g] Call[h Call[i] dots]]",
		"function() end":               "Func[Block]",
		"function(a) end":              "Func a[Block]",
		"function(a, b, ...) end":      "Func 1 a,b[Block]",
		"function(...) return ... end": "Func 1[Block[Return[dots]]]",
		"function() end, 1":            "Func[Block] 1",
		"{}":                           "Table",
		"{1}":                          "Table[Item[1]]",
		"{1,}":                         "Table[Item[1]]",
		"{1;}":                         "Table[Item[1]]",
		"{1, 2; 3}":                    "Table[Item[1] Item[2] Item[3]]",
		"{x = 1}":                      `Table[Named["x" 1]]`,
		"{x}":                          "Table[Item[x]]",
		"{x, y = z}":                   `Table[Item[x] Named["y" z]]`,
		"{x == 1}":                     "Table[Item[(x == 1)]]",
		"{x.y}":                        `Table[Item[Index[x "y"]]]`,
		"{x()}":                        "Table[Item[Call[x]]]",
		"{(x)}":                        "Table[Item[<x>]]",
		"{[x] = y, [1 + 2] = {}}":      "Table[Named[x y] Named[(1 + 2) Table]]",
		"{['x'] = 1; x = 2, 3;}":       `Table[Named["x" 1] Named["x" 2] Item[3]]`,
		"{[ [[x]] ] = 1}":              `Table[Named["x" 1]]`,
		"{{}, {{}}}":                   "Table[Item[Table] Item[Table[Item[Table]]]]",
		"{function() end, ...}":        "Table[Item[Func[Block]] Item[dots]]",
		"{f = function(self) end}":     `Table[Named["f" Func self[Block]]]`,
		"-1":                           "(- 1)",
		"- -1":                         "(- (- 1))",
		"not not x":                    "(not (not x))",
		"#'s'":                         `(# "s")`,
		"~ ~ 5":                        "(~ (~ 5))",
		"- not # ~ x":                  "(- (not (# (~ x))))",
		"-x.y":                         `(- Index[x "y"])`,
		"-f()":                         "(- Call[f])",
		"#x:m(1)[2]":                   "(# Index[Method m[x 1] 2])",
		"-x + y":                       "((- x) + y)",
		"x + -y":                       "(x + (- y))",
		"-x * -y":                      "((- x) * (- y))",
		"x - -y":                       "(x - (- y))",
		"x ~ ~ y":                      "(x ~ (~ y))",
		"x ~= ~y":                      "(x ~= (~ y))",
		"not x == y":                   "((not x) == y)",
		"not (x == y)":                 "(not <(x == y)>)",
		"#x .. #y":                     "((# x) .. (# y))",
		"x or y and z":                 "(x or (y and z))",
		"x and y or z":                 "((x and y) or z)",
		"(x or y) and z":               "(<(x or y)> and z)",
		"a .. b .. c .. d":             "(a .. (b .. (c .. d)))",
		"a - b - c - d":                "(((a - b) - c) - d)",
		"a + b .. c + d .. e":          "((a + b) .. ((c + d) .. e))",
		"a .. b == c .. d":             "((a .. b) == (c .. d))",
		"a < b == c":                   "((a < b) == c)",
		"a or b and c == d | e ~ f & g << h .. i + j * -k": "(a or (b and (c == (d | (e ~ (f & (g << (h .. (i + (j * (- k)))))))))))",
		"-a * b + c .. d << e & f ~ g | h == i and j or k": "(((((((((((- a) * b) + c) .. d) << e) & f) ~ g) | h) == i) and j) or k)",
		"1 // 2 % 3 * 4":      "(((1 // 2) % 3) * 4)",
		"f(1 + 2, not x)":     "Call[f (1 + 2) (not x)]",
		"function() end == x": "(Func[Block] == x)",
		"{} .. 's'":           `(Table .. "s")`,
	} {
		means(t, expr, want)
	}
}

// P6.1: what binds, for each pair of operators; each unary sign ahead of each, and behind.
func TestPairs(t *testing.T) {
	for i, row := range binaries {
		for _, first := range row {
			for _, sign := range unaries {
				means(t, sign+" a "+first+" b", "(("+sign+" a) "+first+" b)")
				means(t, "a "+first+" "+sign+" b", "(a "+first+" ("+sign+" b))")
				means(t, "a "+first+" "+sign+" b "+first+" c", map[bool]string{
					false: "((a " + first + " (" + sign + " b)) " + first + " c)", true: "(a " + first + " ((" + sign + " b) " + first + " c))",
				}[first == ".."])
			}
			for j, other := range binaries {
				for _, second := range other {
					want := "((a " + first + " b) " + second + " c)"
					if j > i || j == i && first == ".." {
						want = "(a " + first + " (b " + second + " c))"
					}
					means(t, "a "+first+" b "+second+" c", want)
				}
			}
		}
	}
}

// Long rows: none of them is deeper than its level.
func TestLongRows(t *testing.T) {
	for _, c := range []struct {
		text string
		kind api.NodeKind
	}{
		{"x" + strings.Repeat(".a", 1000) + " = 1", api.NIndex}, {"x" + strings.Repeat("[1]", 1000) + " = 1", api.NIndex},
		{"x" + strings.Repeat("()", 1000), api.NCall}, {"x" + strings.Repeat(":m()", 1000), api.NMethod},
		{"x" + strings.Repeat("{}", 1000), api.NCall}, {"x" + strings.Repeat("'s'", 1000), api.NCall}, {"x" + strings.Repeat("[[s]]", 1000), api.NCall},
		{"x" + strings.Repeat(":m{}", 1000), api.NMethod}, {"x" + strings.Repeat(":m''", 1000), api.NMethod},
		{"x" + strings.Repeat(".a[1](2):m(3){}", 200) + " = 1", api.NIndex}, {"return 1" + strings.Repeat(" + 1", 1000), api.NBin},
		{"return 1" + strings.Repeat(" or 1", 1000), api.NOr}, {"return 1" + strings.Repeat(" and 1", 1000), api.NAnd}, {"return 1" + strings.Repeat(" * 1 + 2", 500), api.NBin},
		{"function x" + strings.Repeat(".a", 1000) + "() end", api.NIndex},
	} {
		if strings.HasSuffix(c.text, "{} = 1") {
			fails(t, c.text, api.ErrSyntax, 1)
			c.text = strings.TrimSuffix(c.text, " = 1")
		}
		s := parsed(t, c.text)
		if !slices.ContainsFunc(s.Nodes, func(n api.Node) bool { return n.Kind == c.kind }) {
			t.Error(shown(c.text))
		}
	}
}

// lists asks for the nodes of a text in their order, each with its line.
func lists(t *testing.T, text, want string) {
	t.Helper()
	var got []string
	for _, n := range parsed(t, text).Nodes {
		got = append(got, kindNames[n.Kind]+"@"+strconv.Itoa(n.Line))
	}
	if all := strings.Join(got, " "); all != want {
		t.Errorf("Parse(%s):\n%s, want\n%s", shown(text), all, want)
	}
}

// P6.1: each node's line, and its place in the list.
func TestLines(t *testing.T) {
	for text, want := range map[string]string{
		"":                                        "Block@1 Func@1",
		"\n\n":                                    "Block@3 Func@1",
		"\n;\n":                                   "Block@2 Func@1",
		"\n\nbreak\n":                             "Break@3 Block@3 Func@1",
		"--[[\n]]break":                           "Break@2 Block@2 Func@1",
		"x\n,\ny\n=\n1\n,\n2":                     "Name@1 Name@3 Int@5 Int@7 Assign@1 Block@1 Func@1",
		"\nf\n(\n1\n)\n":                          "Name@2 Int@4 Call@2 CallStat@2 Block@2 Func@1",
		"f\n:\nm\n's'":                            "Name@1 Str@4 Method@1 CallStat@1 Block@1 Func@1",
		"f\n{\n1\n,\nx\n=\n2\n}":                  "Name@1 Int@3 Item@3 Str@5 Int@7 Named@5 Table@2 Call@1 CallStat@1 Block@1 Func@1",
		"(\nf\n)\n.\nx\n[\ny\n]\n=\n1":            "Name@2 Paren@1 Str@5 Index@1 Name@7 Index@1 Int@10 Assign@1 Block@1 Func@1",
		"return\nx\n+\ny\n*\nz":                   "Name@2 Name@4 Name@6 Bin@4 Bin@2 Return@1 Block@1 Func@1",
		"return\nx\n..\ny\n..\nz\n;":              "Name@2 Name@4 Name@6 Bin@4 Bin@2 Return@1 Block@1 Func@1",
		"return\nx\nor\ny\nand\nz":                "Name@2 Name@4 Name@6 And@4 Or@2 Return@1 Block@1 Func@1",
		"return\n-\nnot\nx\n<\n1":                 "Name@4 Un@3 Un@2 Int@6 Bin@2 Return@1 Block@1 Func@1",
		"return\n(\n-\n1\n)\n-\nnil":              "Int@4 Un@3 Paren@2 Nil@7 Bin@2 Return@1 Block@1 Func@1",
		"return\n...\n,\ntrue\n,\nfalse":          "Dots@2 True@4 False@6 Return@1 Block@1 Func@1",
		"return\n{\n[\n1\n]\n=\n2\n;\n3\n}":       "Int@4 Int@7 Named@3 Int@9 Item@9 Table@2 Return@1 Block@1 Func@1",
		"return\n{\n-\n1\n..\n2\n}":               "Int@4 Un@3 Int@6 Bin@3 Item@3 Table@2 Return@1 Block@1 Func@1",
		"while\nx\ndo\nbreak\nend":                "Name@2 Break@4 Block@4 While@1 Block@1 Func@1",
		"while\nx\ndo\nend":                       "Name@2 Block@4 While@1 Block@1 Func@1",
		"do\n;\nbreak\nend":                       "Break@3 Block@2 Do@1 Block@1 Func@1",
		"do\n\nend":                               "Block@3 Do@1 Block@1 Func@1",
		"repeat\nuntil\nx":                        "Block@2 Name@3 Repeat@1 Block@1 Func@1",
		"repeat\nbreak\nuntil\nx":                 "Break@2 Block@2 Name@4 Repeat@1 Block@1 Func@1",
		"if\nx\nthen\nelseif\ny\nthen\nelse\nend": "Name@2 Block@4 Name@5 Block@7 Block@8 If@1 Block@1 Func@1",
		"for\ni\n=\n1\n,\n2\n,\n3\ndo\nend":       "Int@4 Int@6 Int@8 Block@10 For@1 Block@1 Func@1",
		"for\ni\n,\nj\nin\nx\n,\ny\ndo\nend":      "Name@6 Name@8 Block@10 ForIn@1 Block@1 Func@1",
		"function\na\n.\nb\n:\nc\n(\nx\n)\nend":   "Name@2 Str@4 Index@2 Str@6 Index@2 Block@10 Func@1 Assign@1 Block@1 Func@1",
		"\nfunction\nf\n(\n)\nend":                "Name@3 Block@6 Func@2 Assign@2 Block@2 Func@1",
		"local\nfunction\nf\n(\n)\nend":           "Block@6 Func@2 LocalFunc@1 Block@1 Func@1",
		"local\nx\n,\ny\n=\n1":                    "Int@6 Local@1 Block@1 Func@1",
		"local\nx":                                "Local@1 Block@1 Func@1",
		"goto\nl\n::\nl\n::\nbreak":               "Goto@1 Label@3 Break@6 Block@1 Func@1",
		"return\nfunction\n(\n...\n)\nend":        "Block@6 Func@2 Return@1 Block@1 Func@1",
		"do\nreturn\nend\nreturn":                 "Return@2 Block@2 Do@1 Return@4 Block@1 Func@1",
		"x\r\n=\n\r1\r\ry=\r\n\n2":                "Name@1 Int@3 Assign@1 Name@5 Int@7 Assign@5 Block@1 Func@1",
		"x = 'a\\\nb' y = [[\n\n]] z = 1":         "Name@1 Str@1 Assign@1 Name@2 Str@2 Assign@2 Name@4 Int@4 Assign@4 Block@1 Func@1",
	} {
		lists(t, text, want)
	}
}

// P6.1: which token a fault is told with, over several lines.
func TestFaultLines(t *testing.T) {
	for text, line := range map[string]int{
		"x":                                 1,
		"x\n\n":                             3,
		"x =\n":                             2,
		"\n\nx\n=\n)":                       5,
		"f()\n\n= 1":                        3,
		"f\n.\nx\n(\n)\n=":                  6,
		"(x)\n= 1":                          2,
		"(x)\n, y = 1":                      2,
		"x, (y)\n= 1":                       2,
		"x, f()\n= 1":                       2,
		"x, f()\n, y = 1":                   2,
		"x, y:m()\n= 1":                     2,
		"x,\n1 = 2":                         2,
		"x\ny = 1":                          2,
		"x.y\nbreak":                        2,
		"1":                                 1,
		"\n'x'()":                           2,
		"\n{}.x = 1":                        2,
		"x = 1\n+\n":                        3,
		"x = + 1":                           1,
		"x = 1\n1":                          2,
		"local\nfunction\na.b() end":        3,
		"local x,\n= 1":                     2,
		"local\nend":                        2,
		"local x\n.y = 1":                   2,
		"function\n() end":                  2,
		"function f\n.x:y\n.z() end":        3,
		"function f\nend":                   2,
		"function f(a\nb) end":              2,
		"function f(a,\n) end":              2,
		"function f(...\n, a) end":          2,
		"function f(1\n) end":               1,
		"function f()\n":                    2,
		"return 1\nx = 2":                   2,
		"return\nbreak":                     2,
		"return;\n;":                        2,
		"return\n,":                         2,
		"do return 1\nx() end":              2,
		"do\n":                              2,
		"do end\nend":                       2,
		"do\nuntil x":                       2,
		"do\nelse end":                      2,
		"while x\nend":                      2,
		"while\ndo end":                     2,
		"while x do\nuntil":                 2,
		"repeat\nend":                       2,
		"repeat until\n":                    2,
		"if x\ndo end":                      2,
		"if x then else\nelse end":          2,
		"if x then else\nelseif y then end": 2,
		"if x then elseif\nthen end":        2,
		"if x then\n":                       2,
		"else\n":                            1,
		"\nelseif":                          2,
		"\nuntil x":                         2,
		"end\n":                             1,
		"for\n1 = 1, 2 do end":              2,
		"for i\n.x = 1, 2 do end":           2,
		"for i = 1\ndo end":                 2,
		"for i = 1, 2, 3\n, 4 do end":       2,
		"for i, j\n= 1, 2 do end":           2,
		"for i, j in\ndo end":               2,
		"for i\ndo end":                     2,
		"for i in x\nend":                   2,
		"goto\n1":                           2,
		"goto\nend":                         2,
		"::l\n":                             2,
		"::l:\n:":                           1,
		"::\n::":                            2,
		"break\n1":                          2,
		"f(1,\n)":                           2,
		"f(1\n2)":                           2,
		"f(\n":                              2,
		"f(,\n)":                            1,
		"f:m\n= 1":                          2,
		"f:\n1()":                           2,
		"f:m\n.x()":                         2,
		"f.\n'x' = 1":                       2,
		"f.\nend = 1":                       2,
		"f[1\n= 1":                          2,
		"f[\n] = 1":                         2,
		"(\n)":                              2,
		"(x\ny)":                            2,
		"x = {\n,}":                         2,
		"x = {1\n2}":                        2,
		"x = {1,\n,}":                       2,
		"x = {1;\n;}":                       2,
		"x = {[1]\n}":                       2,
		"x = {[1\n= 2}":                     2,
		"x = {[]\n= 2}":                     1,
		"x = {y =\n}":                       2,
		"x = {'y'\n= 1}":                    2,
		"x = {y.z\n= 1}":                    2,
		"x = {\n":                           2,
		"x = function\nf() end":             2,
		"x = function()\n":                  2,
		"x = not\n":                         2,
		"x = a\nnot b":                      2,
		"x = a and\nor b":                   2,
		"x = 1 = \n2":                       1,
		"x == 1\n":                          1,
		"x = 1 'y'":                         1,
		"x = {}\n.y":                        2,
		"x = nil\n()":                       2,
	} {
		fails(t, text, api.ErrSyntax, line)
	}
}

// P6.1: lists of 200 and of 201.
func TestLists(t *testing.T) {
	list := func(count int, one string) string { return strings.Join(slices.Repeat([]string{one}, count), ",\n") }
	for _, c := range map[string]struct {
		ahead, one, behind string
		most               int
	}{
		"local names":                    {"local ", "x", " = 1", 200},
		"local expressions":              {"local x = ", "-x", "", 200},
		"targets":                        {"", "x", " = 1", 200},
		"targets, indexes":               {"", "(f(1)).x", " = 1", 200},
		"assigned":                       {"x = ", "f(x)", "", 200},
		"loop's names":                   {"for ", "x", " in y do end", 200},
		"loop's expressions":             {"for x in ", "'s'", " do end", 200},
		"parameters":                     {"function f(", "x", ") end", 200},
		"parameters, more":               {"function f(", "x", ",...) end", 200},
		"parameters of a local function": {"local function f(", "x", ", ...) end", 200},
		"parameters of a value":          {"x = function(", "x", ") end", 200},
		"parameters behind self":         {"function f:m(", "x", ") end", 199},
		"parameters behind self, more":   {"function f.g:m(", "x", ", ...) end", 199},
		"returned":                       {"return ", "{}", "", 200},
		"returned, ;":                    {"return ", "nil", ";", 200},
		"arguments":                      {"f(", "...", ")", 200},
		"method's arguments":             {"f:m(", "(1)", ")", 200},
		"arguments within":               {"x = {[f(", "function() end", ")] = 1}", 200},
	} {
		for _, count := range []int{1, 2, c.most - 1, c.most} {
			fine(t, c.ahead+list(count, c.one)+c.behind)
		}
		for _, count := range []int{c.most + 1, c.most + 2, c.most + 300} {
			fails(t, c.ahead+list(count, c.one)+c.behind, api.ErrLong, c.most+1)
			fails(t, c.ahead+list(count, c.one)+" ]", api.ErrLong, c.most+1)
		}
		// What may not stand there is told rather than that it is one more; what is wrong behind it is not.
		for _, wrong := range []string{"]", "then", "=", "and", ""} {
			fails(t, c.ahead+list(c.most, c.one)+",\n"+wrong, api.ErrSyntax, c.most+1)
		}
		fails(t, c.ahead+list(c.most, c.one)+",\n"+c.one+" ] ]", api.ErrLong, c.most+1)
		fails(t, c.ahead+list(c.most-1, c.one)+",\n]\n"+c.one, api.ErrSyntax, c.most)
	}
	// A table's fields, and statements, are no such lists; nor are dots, elseifs, and for's numbers.
	fine(t, "x = {"+list(900, "1")+"}")
	fine(t, "x = {"+list(600, "y = 1")+"}")
	fine(t, strings.Repeat("x = 1 ", 900))
	fine(t, "if x then"+strings.Repeat(" elseif x then", 900)+" end")
	// A list within another one is of its own.
	fine(t, "return "+list(100, "x")+", f("+list(200, "x")+"), "+list(99, "x"))
	fails(t, "return "+list(100, "x")+", f("+list(200, "x")+"), "+list(100, "x"), api.ErrLong, 398)
}

// P6.1: names of 60 bytes and of 61; keys of any length.
func TestNames(t *testing.T) {
	for _, c := range map[string]struct {
		ahead, behind string
		wrong         string // what may not stand there
	}{
		"a variable":                       {"x = ", "", "end"},
		"a target":                         {"", " = 1", "end"},
		"a second target":                  {"x, ", " = 1", "1"},
		"a called one":                     {"", "()", "end"},
		"an item":                          {"x = {", "}", "="},
		"an item, compared":                {"x = {", " == 1}", "="},
		"an argument":                      {"f(", ")", "="},
		"a key in [ ]":                     {"x[", "] = 1", "="},
		"a table's key in [ ]":             {"x = {[", "] = 1}", "="},
		"an operand":                       {"x = 1 + ", "", "="},
		"a method":                         {"x:", "()", "1"},
		"a later method":                   {"x.y:z():", "''", "("},
		"a label":                          {"::", "::", "1"},
		"a goto":                           {"goto ", "", "1"},
		"a local":                          {"local ", "", "1"},
		"a second local":                   {"local x, ", " = 1", "="},
		"a local function":                 {"local function ", "() end", "("},
		"a function's variable":            {"function ", "() end", "("},
		"a function's variable with a key": {"function ", ".x() end", "("},
		"a parameter":                      {"function f(", ") end", "1"},
		"a second parameter":               {"function f(x, ", ") end", ")"},
		"a parameter of a value":           {"x = function(", ", ...) end", ","},
		"a loop's variable":                {"for ", " = 1, 2 do end", "1"},
		"a loop's first variable":          {"for ", " in x do end", "in"},
		"a loop's second variable":         {"for x, ", " in x do end", "in"},
	} {
		for _, length := range []int{1, 59, 60} {
			fine(t, c.ahead+strings.Repeat("n", length)+c.behind)
		}
		for _, length := range []int{61, 62, 1000, 60000} {
			fails(t, "\n"+c.ahead+strings.Repeat("n", length)+c.behind, api.ErrLong, 2)
			fails(t, "\n"+c.ahead+strings.Repeat("n", length)+"\n] ]", api.ErrLong, 2)
		}
		fails(t, c.ahead+"\n"+c.wrong+strings.Repeat(" n", 61), api.ErrSyntax, 2)
	}
	for what, c := range map[string][2]string{
		"behind a dot":               {"x = y.", ""},
		"behind a dot, a target":     {"x.", " = 1"},
		"behind a second dot":        {"x.y.", "()"},
		"a field's":                  {"x = {", " = 1}"},
		"a second field's":           {"x = {y,", "=\n1;}"},
		"a function's":               {"function x.", "() end"},
		"a function's second":        {"function x.y.", ".z() end"},
		"a function's behind a :":    {"function x:", "() end"},
		"a function's last with a :": {"function x.y:", "() end"},
	} {
		for _, length := range []int{1, 60, 61, 1000, 65000} {
			key := strings.Repeat("k", length)
			s := parsed(t, c[0]+key+c[1])
			if !slices.ContainsFunc(s.Nodes, func(n api.Node) bool { return n.Kind == api.NStr && n.Name == key }) {
				t.Error(what, length)
			}
		}
	}
	// A long name where none may stand is no name that is too long.
	long := strings.Repeat("n", 61)
	for text, line := range map[string]int{
		"x\n" + long + " = 1": 2, "x = 1 +\n+ " + long: 2, "return 1\n" + long: 2, "for x = 1, 2\n" + long: 2, "f()\n= " + long: 2, "local x = {y\n" + long + "}": 2, "if x\n" + long: 2, "::x\n" + long: 2, "break ) " + long: 1,
	} {
		fails(t, text, api.ErrSyntax, line)
	}
	fails(t, "local x\n"+long+" = 1", api.ErrLong, 2)
	fails(t, "x = 1\n"+long, api.ErrLong, 2)
	fails(t, "goto x\n"+long, api.ErrLong, 2)
}

// P6.1: texts of 65535 bytes and of 65536.
func TestLongTexts(t *testing.T) {
	for _, c := range []struct{ ahead, fill, behind string }{
		{"", " ", ""}, {"x = 1", " ", "y = 2"}, {"x = '", "s", "'"}, {"--", "-", ""}, {"", ";", ""}, {"x = [[", "[", "]]"}, {"x.", "k", " = 1"},
	} {
		text := c.ahead + strings.Repeat(c.fill, 65535-len(c.ahead)-len(c.behind)) + c.behind
		fine(t, text)
		fails(t, c.ahead+c.fill+text[len(c.ahead):], api.ErrLong, 0)
		fails(t, c.ahead+strings.Repeat(c.fill, 200000)+c.behind, api.ErrLong, 0)
	}
	// That the text is too long is told first.
	fails(t, strings.Repeat(" ", 65536)+"@", api.ErrLong, 0)
	fails(t, "= = ="+strings.Repeat(" ", 65536), api.ErrLong, 0)
	fails(t, "x = @"+strings.Repeat(" ", 65535), api.ErrLong, 0)
	fails(t, "= = ="+strings.Repeat(" ", 65530), api.ErrSyntax, 1)
}

// P6.1: 4096 nodes, and 4097.
func TestNodes(t *testing.T) {
	for what, c := range map[string]struct {
		text  string
		ahead string // what may be put ahead again and again, each a node or more in a line of its own
		nodes int    // of ahead
		whole int    // of text, the block and the root among them
	}{
		"breaks": {"", "break\n", 1, 2}, "labels": {"", "::l::\n", 1, 2}, "blocks": {"", "do end\n", 2, 2}, "returns": {"return", "break\n", 1, 3},
		"a name": {"x = 1", "break\n", 1, 5}, "calls": {"break", "f()\n", 3, 3}, "an operator": {"return a + b", "break\n", 1, 6}, "functions": {"", "local function f() end\n", 3, 2},
	} {
		most := (4096 - c.whole) / c.nodes
		fine(t, strings.Repeat(c.ahead, most)+c.text)
		if (4096-c.whole)%c.nodes == 0 {
			if s := parsed(t, strings.Repeat(c.ahead, most)+c.text); len(s.Nodes) != 4096 {
				t.Error(what, len(s.Nodes))
			}
		}
		_, fault := parse.Parse(strings.Repeat(c.ahead, most+1) + c.text)
		if fault.Err != api.ErrLong || fault.Line < most || fault.Line > most+2 {
			t.Error(what, fault)
		}
	}
	breaks := strings.Repeat("break\n", 4094)
	fine(t, breaks)
	fails(t, breaks+"\n\nbreak\n\n", api.ErrLong, 4099)            // The root is one too many.
	fails(t, breaks+"break\nbreak\n\n", api.ErrLong, 4098)         // The block is.
	fails(t, breaks+"break\nbreak\nbreak\n;\n", api.ErrLong, 4098) // The last break is, ahead of the ;.
	fails(t, breaks+"break\nbreak\nbreak\n\n)", api.ErrLong, 4099)
	fails(t, breaks+"break\nbreak\n)", api.ErrSyntax, 4097)
	fails(t, breaks+"break\nbreak\nend", api.ErrLong, 4097)
	fails(t, breaks+"break\nend", api.ErrSyntax, 4096)
	fails(t, breaks+"break\nbreak\nx\n)", api.ErrLong, 4098)
	fails(t, breaks+"break\nx\n)", api.ErrSyntax, 4097)
}

// nested answers a text that has around each other so many of these, the last of them around inner.
func nested(count int, ahead, inner, behind string) string {
	return strings.Repeat(ahead, count) + inner + strings.Repeat(behind, count)
}

// P6.1: level 100, and level 101, with all that makes levels.
func TestLevels(t *testing.T) {
	for what, c := range map[string]struct {
		first, ahead, inner, behind string
		most                        int // how many times ahead there may be
		line                        int // of the fault, if there is one more, behind most
	}{
		"do":                  {"", "do\n", "", " end", 99, 2},
		"while":               {"", "while x do\n", "", " end", 99, 1},
		"repeat":              {"", "repeat\n", "", " until x", 99, 2},
		"if":                  {"", "if x then\n", "", " end", 99, 1},
		"else":                {"", "if x then else\n", "", " end", 99, 1},
		"elseif":              {"", "if x then elseif y then\n", "", " end", 99, 1},
		"for":                 {"", "for i = 1, 2 do\n", "", " end", 99, 1},
		"for in":              {"", "for i in x do\n", "", " end", 99, 1},
		"local function":      {"", "local function f()\n", "", " end", 49, 2},
		"function":            {"", "function f()\n", "", " end", 49, 2},
		"function with a key": {"", "function f.g()\n", "", " end", 49, 1},
		"function with a :":   {"", "function f:g()\n", "", " end", 49, 1},
		"a function's value":  {"", "local x = function()\n", "", " end", 49, 2},
		"functions returned":  {"", "return function()\n", "", " end", 49, 2},
		"( )":                 {"return ", "(\n", "1", ")", 98, 2},
		"arguments":           {"", "f(\n", "1", ")", 98, 2},
		"arguments, dots":     {"", "f(\n", "...", ")", 98, 2},
		"arguments' tables":   {"", "f{\n", "1", "}", 49, 1},
		"method's arguments":  {"", "f:m(\n", "1", ")", 98, 2},
		"second arguments":    {"", "f(1,\n", "1", ")", 98, 1},
		"keys":                {"x = ", "x[\n", "1", "]", 98, 2},
		"tables":              {"return ", "{\n", "{}", "}", 98, 2},
		"items":               {"return ", "{\n", "1", "}", 98, 2},
		"named":               {"return ", "{x =\n", "1", "}", 98, 1},
		"named, keys":         {"return ", "{[\n", "1", "] = 2}", 98, 2},
		"named, values":       {"return ", "{['k'] =\n", "1", "}", 98, 1},
		"-":                   {"return ", "-\n", "1", "", 98, 2},
		"not":                 {"return ", "not\n", "1", "", 98, 2},
		"..":                  {"return ", "1 ..\n", "1", "", 98, 2},
		"operators and ( )":   {"return ", "1 + (\n", "1", ")", 49, 1},
		"( ), first operands": {"return ", "(\n", "1", ") + 1", 98, 2},
		"( ), called":         {"", "(\n", "f", ")()", 98, 2},
		"( ), indexed":        {"x = ", "(\n", "f", ").x", 98, 2},
	} {
		fine(t, c.first+nested(c.most, c.ahead, c.inner, c.behind))
		for _, more := range []int{1, 2, 50} {
			wantFault(t, what, c.first+nested(c.most+more, c.ahead, c.inner, c.behind), api.Fault{Err: api.ErrLong, Line: c.most + c.line})
			wantFault(t, what, c.first+strings.Repeat(c.ahead, c.most+more), api.Fault{Err: api.ErrLong, Line: c.most + c.line})
		}
	}
}

// In a block of level 100 there may be what has no expressions and no blocks, and no more.
func TestLastLevel(t *testing.T) {
	in := func(inner string) string { return nested(99, "do\n", inner, " end") }
	for _, inner := range []string{"", ";", "break", "goto l", "::l::", "local x", "local x, y", "return", "return;", "break ::l:: local x; return"} {
		fine(t, in(inner))
	}
	for _, inner := range []string{
		"x = 1", "f()", "(f)()", "x", "( )", "do end", "do", "while x do end", "while )", "repeat until x", "repeat )", "if x then end", "if )", "local x = 1", "local x = )",
		"local function f() end", "local function )", "function f() end", "function )", "for i = 1, 2 do end", "for i = )", "for i in x do end", "for i in )", "return 1", "return )", "return return", "return f()",
	} {
		fails(t, in(inner), api.ErrLong, 100)
	}
	for _, inner := range []string{"1", "+", "'s'", "nil", "-x", "{}", "local", "local 1", "local x y z", "goto", "goto 1", "::x", "for 1", "for i 1", "for i, j = 1", "return; x", "return;;", "break 1", "then", "until", "else"} {
		want := api.ErrSyntax
		if inner == "local x y z" {
			want = api.ErrLong
		}
		fails(t, in(inner), want, 100)
	}
	at := func(inner string) string { return nested(98, "(\n", inner, ")") }
	for _, inner := range []string{"1", "x", "...", "{}", "f()", "f:m()", "f()()", "x + x", "'s' .. x"} {
		s, fault := parse.Parse("return " + at(inner))
		deeper := strings.ContainsAny(inner, "+'")
		if (fault == api.Fault{Err: api.ErrLong, Line: 99}) != deeper || nodes.Right(s) == deeper {
			t.Error(inner, fault)
		}
	}
	for _, inner := range []string{"(1)", "x.y", "x[1]", "-1", "{1}", "{,", "{x}", "{x = 1}", "{[1] = 1}", "f(1)", "f{}", "f''", "f(]", "f:m(1)", "f:m''", "x.)", "x[)", "f{", "not )", "function() end", "function(x) )", "1 or 2", "1 + )", "{[)"} {
		fails(t, "return "+at(inner), api.ErrLong, 99)
	}
	for _, inner := range []string{")", "]", "x:)", "x:m)", "x:m.", "{} {", "f)) )", "function)", "function(1)", "then", "1 1", "f() 1", "f(", "{"} {
		want := api.ErrSyntax
		if inner == "f(" || inner == "{" {
			// The ) behind.
			want = map[string]api.Errno{"f(": api.ErrSyntax, "{": api.ErrLong}[inner]
		}
		_, fault := parse.Parse("return " + at(inner))
		if fault.Err != want || inner != "f)) )" && inner != "f(" && fault.Line != 99 {
			t.Error(inner, fault)
		}
	}
}

// Faults of two kinds: at one token, the first one of the chapter's row; at two, that of the first token.
func TestTwoFaults(t *testing.T) {
	long := strings.Repeat("n", 61)
	list := strings.Repeat("x, ", 200)
	breaks := strings.Repeat("break ", 4096)
	deep := strings.Repeat("do ", 99)
	for text, want := range map[string]api.Fault{
		// At two tokens.
		long + "\n= = 1":                          {Err: api.ErrLong, Line: 1},
		"x = =\n" + long:                          {Err: api.ErrSyntax, Line: 1},
		"x = 1 1\n" + deep + "x = 1":              {Err: api.ErrSyntax, Line: 1},
		deep + "x\n= =":                           {Err: api.ErrLong, Line: 1},
		"return " + list + "\nx\n)":               {Err: api.ErrLong, Line: 2},
		"return " + list + "\n)\nx":               {Err: api.ErrSyntax, Line: 2},
		"return " + list[:len(list)-2] + "\n)\nx": {Err: api.ErrSyntax, Line: 2},
		breaks + "break\n)":                       {Err: api.ErrLong, Line: 2},
		breaks + "\n)\nbreak":                     {Err: api.ErrSyntax, Line: 2},
		breaks + "goto\n" + long + "\n)":          {Err: api.ErrLong, Line: 2},
		breaks + "goto\n1\n" + long:               {Err: api.ErrSyntax, Line: 2},
		breaks + deep + "\nx = 1":                 {Err: api.ErrLong, Line: 2},
		// At one token.
		breaks + "break\nend":                        {Err: api.ErrLong, Line: 2}, // a node too many, and no place for it
		breaks + "break\n" + long:                    {Err: api.ErrLong, Line: 2},
		deep + "do\n)":                               {Err: api.ErrLong, Line: 2}, // a level too many, and no place for it
		deep + "\n)":                                 {Err: api.ErrSyntax, Line: 2},
		deep + "\n1":                                 {Err: api.ErrSyntax, Line: 2},
		deep + "return\n=":                           {Err: api.ErrLong, Line: 2},
		deep + "return;\n" + long:                    {Err: api.ErrSyntax, Line: 2}, // no place for it, and too long
		"local " + list + "\n1":                      {Err: api.ErrSyntax, Line: 2}, // no place for it, and one too many
		"local " + list + "\nend":                    {Err: api.ErrSyntax, Line: 2},
		list + "\n1":                                 {Err: api.ErrSyntax, Line: 2},
		list + "\n{}":                                {Err: api.ErrSyntax, Line: 2},
		list + "\n" + long:                           {Err: api.ErrLong, Line: 2},
		"f(" + list + "\n)":                          {Err: api.ErrSyntax, Line: 2},
		"function f(" + list + "\n1":                 {Err: api.ErrSyntax, Line: 2},
		"function f(" + list + "\n...\n":             {Err: api.ErrSyntax, Line: 3},
		"f(" + list + "\n" + strings.Repeat("(", 98): {Err: api.ErrLong, Line: 2},
	} {
		wantFault(t, "two faults", text, want)
	}
}

// R3: what is handed out is new, and no two lists of it share memory, their spare room neither.
func TestNew(t *testing.T) {
	text := "function a.b:c(x, y) local z, w = {1, x = 2, f(1, 2)}, 3 if x then elseif y then else end x, y = 1, 2 for i, j in x, y do end return f(x), -y .. z end"
	s, again := parsed(t, text), parsed(t, text)
	want := sayAll(s)
	if sayAll(again) != want {
		t.Fatal("not the same again")
	}
	for i, n := range s.Nodes {
		clear(n.Kids)
		clear(n.Names)
		_ = append(n.Kids, slices.Repeat([]int{-1}, cap(n.Kids)-len(n.Kids))...)
		_ = append(n.Names, slices.Repeat([]string{"?"}, cap(n.Names)-len(n.Names))...)
		for k, other := range s.Nodes[i+1:] {
			if slices.Contains(other.Kids, -1) || slices.Contains(other.Names, "?") {
				t.Error("nodes", i, i+1+k, "share a list")
			}
			whole := again.Nodes[i+1+k]
			if !slices.Equal(other.Kids, whole.Kids) || !slices.Equal(other.Names, whole.Names) {
				t.Error("nodes", i, i+1+k, "share a list")
			}
		}
	}
	clear(s.Nodes)
	if sayAll(again) != want || sayAll(parsed(t, text)) != want {
		t.Error("two answers share memory")
	}
}
