package flow_test

import (
	"fmt"
	"math/rand"
	"slices"
	"strings"

	"twinstep/api"
)

// told_test.go: syntaxes put together, laid in any order, and programs as texts that can be read.

// part is a node with its kids.
type part struct {
	api.Node
	parts []*part
}

func of(k api.NodeKind, parts ...*part) *part {
	return &part{Node: api.Node{Kind: k, Line: 1}, parts: parts}
}

func (p *part) n(n int64) *part             { p.N = n; return p }
func (p *part) name(s string) *part         { p.Name = s; return p }
func (p *part) names(names ...string) *part { p.Names = names; return p }
func (p *part) line(line int) *part         { p.Line = line; return p }

func name(s string) *part                    { return of(api.NName).name(s) }
func number(n int64) *part                   { return of(api.NInt).n(n) }
func call(f *part, args ...*part) *part      { return of(api.NCall, slices.Insert(args, 0, f)...) }
func calls(f *part, args ...*part) *part     { return of(api.NCallStat, call(f, args...)) }
func block(stats ...*part) *part             { return of(api.NBlock, stats...) }
func do(stats ...*part) *part                { return of(api.NDo, block(stats...)) }
func function(n int64, stats ...*part) *part { return of(api.NFunc, block(stats...)).n(n) }
func returns(exprs ...*part) *part           { return of(api.NReturn, exprs...) }
func local(names []string, e ...*part) *part { return of(api.NLocal, e...).names(names...) }
func assign(n int64, parts ...*part) *part   { return of(api.NAssign, parts...).n(n) }
func text(stats ...*part) *part              { return function(1, stats...) }
func localFunction(s string, f *part) *part  { return of(api.NLocalFunc, f).names(s) }
func times(count int, s string) string       { return strings.Repeat(s, count) }
func numbered(s string, from, to int) []string { // s with each number from from up to to behind it
	var out []string
	for i := from; i <= to; i++ {
		out = append(out, fmt.Sprint(s, i))
	}
	return out
}

// all answers p and all that is in it, each node ahead of its kids.
func (p *part) all() []*part {
	out := []*part{p}
	for _, kid := range p.parts {
		out = append(out, kid.all()...)
	}
	return out
}

// spare answers list with room behind it, in which one more stands.
func spare[T any](list []T, one T) []T {
	return append(slices.Clone(list), one)[:len(list)]
}

// lay answers p as a list, each node behind its kids. Lists of the nodes have room behind them.
func lay(p *part) api.Syntax {
	var s api.Syntax
	var put func(p *part) int
	put = func(p *part) int {
		var kids []int
		for _, kid := range p.parts {
			kids = append(kids, put(kid))
		}
		n := p.Node
		n.Kids, n.Names = spare(kids, -1), spare(n.Names, "spare")
		s.Nodes = append(s.Nodes, n)
		return len(s.Nodes) - 1
	}
	s.Root = put(p)
	return s
}

// unlay answers the parts that lie in s, which is right.
func unlay(s api.Syntax) *part {
	var take func(place int) *part
	take = func(place int) *part {
		p := &part{Node: s.Nodes[place]}
		for _, k := range s.Nodes[place].Kids {
			p.parts = append(p.parts, take(k))
		}
		p.Kids, p.Names = nil, slices.Clone(p.Names)
		return p
	}
	return take(s.Root)
}

// copied answers s in memory of its own, the room behind its lists too.
func copied(s api.Syntax) api.Syntax {
	out := api.Syntax{Nodes: slices.Clone(s.Nodes), Root: s.Root}
	for i, n := range out.Nodes {
		out.Nodes[i].Kids = slices.Clone(n.Kids[:cap(n.Kids)])[:len(n.Kids)]
		out.Nodes[i].Names = slices.Clone(n.Names[:cap(n.Names)])[:len(n.Names)]
	}
	return out
}

// moved answers s with node i at place to[i], places told anew.
func moved(s api.Syntax, to []int) api.Syntax {
	out := api.Syntax{Nodes: make([]api.Node, len(s.Nodes)), Root: to[s.Root]}
	for i, n := range copied(s).Nodes {
		for k := range n.Kids {
			n.Kids[k] = to[n.Kids[k]]
		}
		out.Nodes[to[i]] = n
	}
	return out
}

// orders answers s, which is right, as it is, turned round, and in an order by chance.
func orders(r *rand.Rand, s api.Syntax) []api.Syntax {
	var back []int
	for i := range s.Nodes {
		back = append(back, len(s.Nodes)-1-i)
	}
	return []api.Syntax{s, moved(s, back), moved(s, r.Perm(len(s.Nodes)))}
}

// wholeSyntax tells a syntax with all that it has, the room behind its lists too.
func wholeSyntax(s api.Syntax) string {
	var out strings.Builder
	fmt.Fprint(&out, s.Root)
	for _, n := range s.Nodes {
		fmt.Fprintf(&out, "\n%d %d %q %q %d %d %d %d", n.Kind, n.N, n.Name, n.Names[:cap(n.Names)], len(n.Names), n.Kids[:cap(n.Kids)], len(n.Kids), n.Line)
	}
	return out.String()
}

// whole tells a program with all that it has; lists that are empty and lists that are nil are the same.
func whole(p api.Program) string {
	var out strings.Builder
	fmt.Fprintf(&out, "%q\n", p.Strs)
	for _, f := range p.Protos {
		fmt.Fprintf(&out, "%+v\n", f)
	}
	return out.String()
}

var opMarks = strings.Fields("? + - * // % & | ~ << >> .. == ~= < <= > >= - not # ~")

var stmtWords = strings.Fields("? local assign call test forprep forloop inprep inloop func return jump")

var exprWords = map[api.ExprKind]string{
	api.ENil: "nil", api.ETrue: "true", api.EFalse: "false", api.EDots: "...",
	api.EIndex: "index", api.ECall: "call", api.EAnd: "and", api.EOr: "or",
	api.ETable: "table", api.EItem: "item", api.ENamed: "named", api.EParen: "paren",
}

// at answers list[i], or what says that there is none.
func at(list []string, i int64) string {
	if i < 0 || i >= int64(len(list)) {
		return fmt.Sprintf("NONE%d", i)
	}
	return list[i]
}

// head tells an expression without its kids: f1 is function 1, s0 slot 0, u0 Up 0, $x the global x.
func head(p api.Program, e api.Expr) string {
	switch e.Kind {
	case api.EInt:
		return fmt.Sprint(e.N)
	case api.EStr:
		return "'" + at(p.Strs, e.N) + "'"
	case api.EGlobal:
		return "$" + at(p.Strs, e.N)
	case api.EMethod:
		return ":" + at(p.Strs, e.N)
	case api.EFunc, api.ESlot, api.EUp:
		return fmt.Sprint(map[api.ExprKind]string{api.EFunc: "f", api.ESlot: "s", api.EUp: "u"}[e.Kind], e.N)
	case api.EBin, api.EUn:
		return at(opMarks, e.N)
	}
	if e.N != 0 {
		return fmt.Sprintf("%s WITH %d", exprWords[e.Kind], e.N)
	}
	return exprWords[e.Kind]
}

// expr tells an expression with its kids.
func expr(p api.Program, f api.Proto, place int) string {
	if place < 0 || place >= len(f.Exprs) {
		return fmt.Sprintf("NONE%d", place)
	}
	e := f.Exprs[place]
	switch {
	case len(e.Kids) > 0, e.Kind == api.ETable:
		return head(p, e) + "(" + exprs(p, f, e.Kids) + ")"
	}
	return head(p, e)
}

func exprs(p api.Program, f api.Proto, places []int) string {
	var out []string
	for _, place := range places {
		out = append(out, expr(p, f, place))
	}
	return strings.Join(out, ", ")
}

// list tells all expressions of f in their order, with the places of their kids.
func list(p api.Program, f api.Proto) string {
	var out []string
	for _, e := range f.Exprs {
		one := head(p, e)
		if len(e.Kids) > 0 || e.Kind == api.ETable {
			one += strings.ReplaceAll(fmt.Sprint(e.Kids), " ", ",")
		}
		out = append(out, one)
	}
	return strings.Join(out, " ")
}

// stmt tells a statement: its kind, its slots, its targets = its expressions, where it goes on, / its Else, @ its line, if that is not 1.
func stmt(p api.Program, f api.Proto, s api.Stmt) string {
	out := stmtWords[s.Kind]
	for _, slot := range s.Slots {
		out += fmt.Sprintf(" %d", slot)
	}
	if len(s.Targets) > 0 {
		out += " " + exprs(p, f, s.Targets)
	}
	if len(s.Exprs) > 0 {
		out += " = " + exprs(p, f, s.Exprs)
	}
	out += fmt.Sprintf(" > %d", s.Next)
	if s.Else != 0 {
		out += fmt.Sprintf(" / %d", s.Else)
	}
	if s.Line != 1 {
		out += fmt.Sprintf(" @%d", s.Line)
	}
	return out
}

// header tells of a function its number, its parameters, its slots; and which are boxed, its ups, and its start, if there are such.
func header(number int, f api.Proto) string {
	more := ""
	if f.More {
		more = " ..."
	}
	out := fmt.Sprintf("%d(%d%s) slots %d", number, f.Params, more, f.Slots)
	if slices.Contains(f.Boxed, true) {
		out += " boxed"
	}
	for slot, boxed := range f.Boxed {
		if boxed {
			out += fmt.Sprintf(" %d", slot)
		}
	}
	if len(f.Ups) > 0 {
		out += " ups"
	}
	for _, up := range f.Ups {
		out += fmt.Sprintf(" %s%d", map[bool]string{true: "s", false: "u"}[up.Local], up.At)
	}
	if f.Start != 0 {
		out += fmt.Sprintf(" start %d", f.Start)
	}
	return out
}

// told tells a program line by line: each function, behind it its statements.
func told(p api.Program) []string {
	var out []string
	for i, f := range p.Protos {
		out = append(out, header(i, f))
		for _, s := range f.Stmts {
			out = append(out, stmt(p, f, s))
		}
	}
	return out
}
