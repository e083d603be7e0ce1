package show_test

import (
	"fmt"
	"math"
	"math/rand"
	"slices"
	"strings"

	"twinstep/api"
	"twinstep/texts"
)

// told_test.go: syntaxes put together by hand and by chance, laid in any order, and the chapter's words once more: what told answers is what Show should.

// part is a node with its kids.
type part struct {
	api.Node
	parts []part
}

func of(k api.NodeKind, parts ...part) part {
	return part{Node: api.Node{Kind: k, Line: 1}, parts: parts}
}

func (p part) n(n int64) part             { p.N = n; return p }
func (p part) name(s string) part         { p.Name = s; return p }
func (p part) names(names ...string) part { p.Names = names; return p }
func (p part) line(line int) part         { p.Line = line; return p }

func name(s string) part             { return of(api.NName).name(s) }
func number(n int64) part            { return of(api.NInt).n(n) }
func str(s string) part              { return of(api.NStr).name(s) }
func paren(p part) part              { return of(api.NParen, p) }
func index(a, b part) part           { return of(api.NIndex, a, b) }
func bin(op api.Op, a, b part) part  { return of(api.NBin, a, b).n(int64(op)) }
func un(op api.Op, a part) part      { return of(api.NUn, a).n(int64(op)) }
func call(f part, args ...part) part { return of(api.NCall, append([]part{f}, args...)...) }
func method(o part, args ...part) part {
	return of(api.NMethod, append([]part{o}, args...)...).name("m")
}
func calls(f part, args ...part) part      { return of(api.NCallStat, call(f, args...)) }
func block(stats ...part) part             { return of(api.NBlock, stats...) }
func do(stats ...part) part                { return of(api.NDo, block(stats...)) }
func breaks() part                         { return of(api.NBreak) }
func function(n int64, stats ...part) part { return of(api.NFunc, block(stats...)).n(n) }
func returns(exprs ...part) part           { return of(api.NReturn, exprs...) }
func assign(n int64, parts ...part) part   { return of(api.NAssign, parts...).n(n) }
func local(names []string, e ...part) part { return of(api.NLocal, e...).names(names...) }
func table(parts ...part) part             { return of(api.NTable, parts...) }
func item(p part) part                     { return of(api.NItem, p) }
func named(k, v part) part                 { return of(api.NNamed, k, v) }
func text(stats ...part) part              { return function(1, stats...) }
func a() part                              { return name("a") }
func b() part                              { return name("b") }
func c() part                              { return name("c") }
func times[T any](count int, one T) []T    { return slices.Repeat([]T{one}, count) }
func nest(count int, p part, f func(part) part) part {
	for range count {
		p = f(p)
	}
	return p
}

// spare answers list with room behind it, in which one more stands.
func spare[T any](list []T, one T) []T {
	return append(slices.Clone(list), one)[:len(list)]
}

// lay answers p as a list, each node behind its kids. Lists of the nodes have room behind them.
func lay(p part) api.Syntax {
	var s api.Syntax
	var put func(p part) int
	put = func(p part) int {
		var kids []int
		for _, kid := range p.parts {
			kids = append(kids, put(kid))
		}
		n := p.Node
		n.Kids, n.Names = spare(kids, -1), spare(n.Names, "spare")
		s.Nodes = append(s.Nodes, n)
		return len(s.Nodes) - 1
	}
	s.Root = put(p)
	return s
}

// moved answers s with node i at place to[i], places told anew.
func moved(s api.Syntax, to []int) api.Syntax {
	out := api.Syntax{Nodes: make([]api.Node, len(s.Nodes)), Root: to[s.Root]}
	for i, n := range copied(s).Nodes {
		for k := range n.Kids {
			n.Kids[k] = to[n.Kids[k]]
		}
		out.Nodes[to[i]] = n
	}
	return out
}

// orders answers s, which is right, as it is, turned round, and in an order by chance.
func orders(r *rand.Rand, s api.Syntax) []api.Syntax {
	var back []int
	for i := range s.Nodes {
		back = append(back, len(s.Nodes)-1-i)
	}
	return []api.Syntax{s, moved(s, back), moved(s, r.Perm(len(s.Nodes)))}
}

func copied(s api.Syntax) api.Syntax {
	out := api.Syntax{Nodes: slices.Clone(s.Nodes), Root: s.Root}
	for i, n := range out.Nodes {
		out.Nodes[i].Kids = slices.Clone(n.Kids[:cap(n.Kids)])[:len(n.Kids)]
		out.Nodes[i].Names = slices.Clone(n.Names[:cap(n.Names)])[:len(n.Names)]
	}
	return out
}

// whole tells a syntax with all that it has, the room behind its lists too.
func whole(s api.Syntax) string {
	var out strings.Builder
	fmt.Fprint(&out, s.Root)
	for _, n := range s.Nodes {
		kids, names := n.Kids[:min(len(n.Kids)+1, cap(n.Kids))], n.Names[:min(len(n.Names)+1, cap(n.Names))]
		fmt.Fprintf(&out, "\n%d %d %q %q %d %d %d %d", n.Kind, n.N, n.Name, names, len(n.Names), kids, len(n.Kids), n.Line)
	}
	return out.String()
}

// opMarks are the operators' marks, by their Ops.
var opMarks = strings.Fields("? + - * // % & | ~ << >> .. == ~= < <= > >= - not # ~")

// rows tell how a node is written, by the numbers of its kids; what is written in capitals stands for more.
var rows = map[api.NodeKind]string{
	api.NAssign: "TARGETS = VALUES", api.NCallStat: "0", api.NDo: "do 0 end", api.NWhile: "while 0 do 1 end", api.NRepeat: "repeat 0 until 1",
	api.NFor: "for NAMES = AHEAD do LAST end", api.NForIn: "for NAMES in AHEAD do LAST end", api.NLocalFunc: "local function NAMES BODY",
	api.NReturn: "return ALL", api.NBreak: "break", api.NGoto: "goto NAME", api.NLabel: ":: NAME ::",
	api.NNil: "nil", api.NTrue: "true", api.NFalse: "false", api.NInt: "NUMBER", api.NStr: "QUOTED", api.NDots: "...", api.NFunc: "function ( PARAMS ) 0 end",
	api.NName: "NAME", api.NIndex: "0 [ 1 ]", api.NCall: "0 ( BEHIND )", api.NMethod: "0 : NAME ( BEHIND )",
	api.NBin: "0 OP 1", api.NAnd: "0 and 1", api.NOr: "0 or 1", api.NUn: "OP 0", api.NTable: "{ ALL }", api.NItem: "0", api.NNamed: "[ 0 ] = 1", api.NParen: "( 0 )",
}

// row answers how p is written.
func row(p part) string {
	switch p.Kind {
	case api.NBlock:
		var out []string
		for i := range p.parts {
			out = append(out, fmt.Sprint(i), ";")
		}
		return strings.Join(out, " ")
	case api.NLocal:
		if len(p.parts) == 0 {
			return "local NAMES"
		}
		return "local NAMES = ALL"
	case api.NIf:
		out := []string{"if 0 then 1"}
		for i := 2; i+1 < len(p.parts); i += 2 {
			out = append(out, fmt.Sprintf("elseif %d then %d", i, i+1))
		}
		if len(p.parts)%2 == 1 {
			out = append(out, "else LAST")
		}
		return strings.Join(append(out, "end"), " ")
	}
	return rows[p.Kind]
}

// listed answers the tokens of each, with , between.
func listed(parts []part) []string {
	var out []string
	for i, p := range parts {
		if i > 0 {
			out = append(out, ",")
		}
		out = append(out, tokens(p)...)
	}
	return out
}

// apart answers the names with , between.
func apart(names []string) []string {
	return strings.Fields(strings.Join(names, " , "))
}

// tokens answers the tokens of p.
func tokens(p part) []string {
	var out []string
	last := len(p.parts) - 1
	for _, mark := range strings.Fields(row(p)) {
		var more []string
		var kid int
		switch mark {
		case "TARGETS":
			more = listed(p.parts[:p.N])
		case "VALUES":
			more = listed(p.parts[p.N:])
		case "ALL":
			more = listed(p.parts)
		case "AHEAD":
			more = listed(p.parts[:last])
		case "BEHIND":
			more = listed(p.parts[1:])
		case "LAST":
			more = tokens(p.parts[last])
		case "BODY":
			more = tokens(p.parts[0])[1:]
		case "NAME":
			more = []string{p.Name}
		case "NAMES":
			more = apart(p.Names)
		case "PARAMS":
			more = apart(append(slices.Clone(p.Names), times(int(p.N), "...")...))
		case "NUMBER":
			more = []string{numeral(p.N)}
		case "QUOTED":
			more = []string{texts.Quote(p.Name)}
		case "OP":
			more = []string{opMarks[p.N]}
		default:
			more = []string{mark}
			if _, err := fmt.Sscanf(mark, "%d", &kid); err == nil {
				more = tokens(p.parts[kid])
			}
		}
		out = append(out, more...)
	}
	return out
}

func numeral(n int64) string {
	if n < 0 {
		return fmt.Sprintf("0x%016x", uint64(n))
	}
	return fmt.Sprintf("%d", n)
}

// told answers the text of p, which is a text as a whole.
func told(p part) string {
	return strings.Join(tokens(p.parts[0]), " ")
}

// binds answers how much p binds, as the chapter's rows of operators say.
func binds(p part) int {
	switch p.Kind {
	case api.NOr:
		return 1
	case api.NAnd:
		return 2
	case api.NUn:
		return 11
	case api.NBin:
		for i, marks := range []string{"== ~= < <= > >=", "|", "~", "&", "<< >>", "..", "+ -", "* // %"} {
			if slices.Contains(strings.Fields(marks), opMarks[p.N]) {
				return 3 + i
			}
		}
	}
	return 12
}

// grower puts right syntaxes together by chance, of as much as it has fuel for; deep is how deep it is in them.
type grower struct {
	r          *rand.Rand
	fuel, deep int
}

func (g *grower) chance(of int) bool { return g.r.Intn(of) == 0 }

func (g *grower) name() string {
	names := []string{"a", "_", "x1", "End", "nill", "self", "A_9_z", strings.Repeat("n", 60)}
	return names[g.r.Intn(len(names))]
}

func (g *grower) list(least int) []string {
	var out []string
	for len(out) < least || g.chance(2) {
		out = append(out, g.name())
	}
	return out
}

func (g *grower) number() int64 {
	switch g.r.Intn(4) {
	case 0:
		edges := []int64{0, 1, -1, math.MaxInt64, math.MinInt64, math.MinInt64 + 1, -256}
		return edges[g.r.Intn(len(edges))]
	case 1:
		return int64(g.r.Uint64())
	case 2:
		return int64(g.r.Uint64() >> g.r.Intn(64))
	}
	return int64(g.r.Intn(100))
}

func (g *grower) bytes() string {
	var out []byte
	for !g.chance(5) {
		out = append(out, byte(g.r.Intn(256)))
	}
	return string(out)
}

func (g *grower) exprs(least int) []part {
	var out []part
	for len(out) < least || g.chance(3) {
		out = append(out, g.expr())
	}
	return out
}

// least answers p, or p in ( ), if it binds less than that.
func least(p part, much int) part {
	if binds(p) < much {
		return paren(p)
	}
	return p
}

func (g *grower) prefix() part {
	p := g.expr()
	switch p.Kind {
	case api.NName, api.NIndex, api.NCall, api.NMethod, api.NParen:
		return p
	}
	return paren(p)
}

func (g *grower) target() part {
	if g.chance(2) {
		return name(g.name())
	}
	return index(g.prefix(), g.expr())
}

func (g *grower) operation() part {
	op := api.Op(1 + g.r.Intn(21))
	if op >= api.Neg {
		return un(op, least(g.expr(), 11))
	}
	p := of([]api.NodeKind{api.NAnd, api.NOr, api.NBin, api.NBin, api.NBin}[g.r.Intn(5)])
	if p.Kind == api.NBin {
		p = p.n(int64(op))
	}
	left, right := binds(p), binds(p)+1
	if p.Kind == api.NBin && op == api.Concat {
		left, right = right, left
	}
	p.parts = []part{least(g.expr(), left), least(g.expr(), right)}
	return p
}

func (g *grower) function() part {
	p := of(api.NFunc, g.block()).n(int64(g.r.Intn(2)))
	return p.names(g.list(0)...)
}

func (g *grower) table() part {
	p := table()
	for g.chance(2) {
		if g.chance(2) {
			p.parts = append(p.parts, item(g.expr()))
		} else {
			p.parts = append(p.parts, named(g.expr(), g.expr()))
		}
	}
	return p
}

func (g *grower) expr() part {
	g.fuel--
	g.deep++
	defer func() { g.deep-- }()
	if g.fuel < 0 || g.deep > 30 || g.chance(4) {
		return []part{of(api.NNil), of(api.NTrue), of(api.NFalse), of(api.NDots), number(g.number()), str(g.bytes()), name(g.name()), name(g.name())}[g.r.Intn(8)]
	}
	switch g.r.Intn(8) {
	case 0, 1, 2:
		return g.operation()
	case 3:
		return index(g.prefix(), g.expr())
	case 4:
		return g.call()
	case 5:
		return g.function()
	case 6:
		return g.table()
	}
	return paren(g.expr())
}

func (g *grower) call() part {
	if g.chance(2) {
		return call(g.prefix(), g.exprs(0)...)
	}
	return method(g.prefix(), g.exprs(0)...).name(g.name())
}

func (g *grower) block() part {
	p := block()
	g.deep++
	defer func() { g.deep-- }()
	for g.fuel > 0 && g.deep < 30 && !g.chance(3) {
		p.parts = append(p.parts, g.stat())
	}
	if g.chance(4) {
		p.parts = append(p.parts, returns(g.exprs(0)...))
	}
	return p
}

func (g *grower) stat() part {
	g.fuel--
	switch g.r.Intn(13) {
	case 0:
		return local(g.list(1), g.exprs(0)...)
	case 1:
		targets := []part{g.target()}
		for g.chance(2) {
			targets = append(targets, g.target())
		}
		return assign(int64(len(targets)), append(targets, g.exprs(1)...)...)
	case 2:
		return of(api.NCallStat, g.call())
	case 3:
		return of(api.NDo, g.block())
	case 4:
		return of(api.NWhile, g.expr(), g.block())
	case 5:
		return of(api.NRepeat, g.block(), g.expr())
	case 6:
		return g.branches()
	case 7:
		p := of(api.NFor, g.expr(), g.expr())
		if g.chance(2) {
			p.parts = append(p.parts, g.expr())
		}
		p.parts = append(p.parts, g.block())
		return p.names(g.name())
	case 8:
		return of(api.NForIn, append(g.exprs(1), g.block())...).names(g.list(1)...)
	case 9:
		return of(api.NLocalFunc, g.function()).names(g.name())
	case 10:
		return breaks()
	case 11:
		return of(api.NGoto).name(g.name())
	}
	return of(api.NLabel).name(g.name())
}

func (g *grower) branches() part {
	p := of(api.NIf, g.expr(), g.block())
	for g.chance(2) {
		p.parts = append(p.parts, g.expr(), g.block())
	}
	if g.chance(2) {
		p.parts = append(p.parts, g.block())
	}
	return p
}

// text answers a text as a whole.
func (g *grower) text() part {
	all := g.block()
	for len(all.parts) == 0 || all.parts[len(all.parts)-1].Kind != api.NReturn && g.fuel > 0 {
		all.parts = append(all.parts, g.block().parts...)
	}
	return of(api.NFunc, all).n(1)
}
