package flow_test

import (
	"fmt"
	"math/rand"
	"reflect"
	"slices"
	"testing"

	"twinstep/api"
	"twinstep/flow"
	"twinstep/nodes"
)

// grown_test.go: texts grown by chance, which are mended fault by fault till they are programs.

// grower puts right syntaxes together by chance, of as much as it has fuel for; deep is how deep it is in them.
type grower struct {
	r             *rand.Rand
	fuel, deep    int
	names, labels int // how many there are of them
	wide          int // how many names stand side by side
	functions     int // one expression of so many is a function
	stop          int // a list ends behind one expression of so many
	lines         int
	loops         int // how many are around
}

func (g *grower) chance(of int) bool { return g.r.Intn(of) == 0 }

func (g *grower) one(makers ...func() *part) *part { return makers[g.r.Intn(len(makers))]() }

func (g *grower) name() string { return fmt.Sprint("v", g.r.Intn(g.names)) }

func (g *grower) label() string { return fmt.Sprint("l", g.r.Intn(g.labels)) }

func (g *grower) list(least int) []string {
	out := make([]string, least+g.r.Intn(g.wide))
	for i := range out {
		out[i] = g.name()
	}
	return out
}

func (g *grower) exprs(least int) []*part {
	var out []*part
	for len(out) < least || len(out) < 100 && !g.chance(g.stop) {
		out = append(out, g.expr())
	}
	return out
}

func (g *grower) variable() *part { return name(g.name()) }

// operand answers an expression that fits anywhere.
func (g *grower) operand() *part {
	if g.chance(2) {
		return g.variable()
	}
	return of(api.NParen, g.expr())
}

func (g *grower) index() *part { return of(api.NIndex, g.operand(), g.expr()) }

func (g *grower) call() *part {
	if g.chance(4) {
		return of(api.NMethod, append([]*part{g.operand()}, g.exprs(0)...)...).name(g.name())
	}
	return call(g.operand(), g.exprs(0)...)
}

func (g *grower) target() *part {
	if g.chance(4) {
		return g.index()
	}
	return g.variable()
}

func (g *grower) function() *part {
	loops := g.loops
	g.loops = 0
	defer func() { g.loops = loops }()
	return of(api.NFunc, g.block()).n(int64(g.r.Intn(2))).names(g.list(0)...)
}

func (g *grower) table() *part {
	p := of(api.NTable)
	for g.chance(2) {
		if g.chance(2) {
			p.parts = append(p.parts, of(api.NItem, g.expr()))
		} else {
			p.parts = append(p.parts, of(api.NNamed, g.expr(), g.expr()))
		}
	}
	return p
}

func (g *grower) word() *part {
	kinds := []api.NodeKind{api.NNil, api.NTrue, api.NFalse, api.NDots}
	return of(kinds[g.r.Intn(len(kinds))])
}

func (g *grower) operation() *part {
	if op := api.Op(1 + g.r.Intn(21)); op < api.Neg {
		return of(api.NBin, g.operand(), g.operand()).n(int64(op))
	} else {
		return of(api.NUn, g.operand()).n(int64(op))
	}
}

func (g *grower) choice() *part {
	kinds := []api.NodeKind{api.NAnd, api.NOr}
	return of(kinds[g.r.Intn(2)], g.operand(), g.operand())
}

func (g *grower) expr() *part {
	g.fuel--
	g.deep++
	defer func() { g.deep-- }()
	if g.fuel < 0 || g.deep > 14 || g.chance(2) {
		return g.variable()
	}
	if g.chance(g.functions) {
		return g.function()
	}
	str := func() *part { return of(api.NStr).name(g.name()) }
	integer := func() *part { return number(int64(g.r.Intn(9))) }
	return g.one(g.word, str, integer, g.operation, g.choice, g.index, g.call, g.table, g.operand)
}

func (g *grower) block() *part {
	p := block()
	g.deep++
	defer func() { g.deep-- }()
	for g.fuel > 0 && g.deep < 14 && !g.chance(5) {
		p.parts = append(p.parts, g.stat())
	}
	for g.chance(6) {
		p.parts = append(p.parts, of(api.NLabel).name(g.label()))
	}
	if g.chance(8) {
		p.parts = append(p.parts, returns(g.exprs(0)...))
	}
	return p
}

func (g *grower) stat() *part {
	g.fuel--
	jump := func() *part {
		return g.one(
			g.leave,
			func() *part { return of(api.NGoto).name(g.label()) },
			func() *part { return of(api.NGoto).name(g.label()) },
			func() *part { return of(api.NLabel).name(g.label()) },
			func() *part { return of(api.NLabel).name(g.label()) },
		)
	}
	plain := func() *part {
		return g.one(
			func() *part { return local(g.list(1), g.exprs(0)...) },
			func() *part { return local(g.list(1)) },
			func() *part { return assign(1, append([]*part{g.target()}, g.exprs(1)...)...) },
			func() *part { return assign(2, append([]*part{g.target(), g.target()}, g.exprs(1)...)...) },
			func() *part { return of(api.NCallStat, g.call()) },
			func() *part { return localFunction(g.name(), g.function()) },
		)
	}
	return g.one(jump, jump, plain, plain, g.loop, func() *part { return of(api.NDo, g.block()) }, g.branches)
}

// leave answers a break; where there is no loop, mostly something else.
func (g *grower) leave() *part {
	if g.loops == 0 && !g.chance(6) {
		return of(api.NDo, g.block())
	}
	return of(api.NBreak)
}

func (g *grower) loop() *part {
	g.loops++
	defer func() { g.loops-- }()
	return g.one(
		func() *part { return of(api.NWhile, g.expr(), g.block()) },
		func() *part { return of(api.NRepeat, g.block(), g.expr()) },
		func() *part { return of(api.NFor, g.expr(), g.expr(), g.block()).names(g.name()) },
		func() *part { return of(api.NFor, g.expr(), g.expr(), g.expr(), g.block()).names(g.name()) },
		func() *part { return of(api.NForIn, append(g.exprs(1), g.block())...).names(g.list(1)...) },
	)
}

func (g *grower) branches() *part {
	p := of(api.NIf, g.expr(), g.block())
	for g.chance(2) {
		p.parts = append(p.parts, g.expr(), g.block())
	}
	if g.chance(2) {
		p.parts = append(p.parts, g.block())
	}
	return p
}

// text answers a text as a whole, each node of another line.
func (g *grower) text() *part {
	stats := []*part{}
	if g.stop > 20 {
		stats = append(stats, local(numbered("v", 0, 79)))
	}
	for g.fuel > 0 {
		stats = append(stats, g.stat())
	}
	p := text(stats...)
	g.number(p)
	return p
}

// number gives all of p lines that no other node has.
func (g *grower) number(p *part) {
	for _, n := range p.all() {
		g.lines++
		n.Line = g.lines
	}
}

// mend takes the node at fault out of p, of which each node has another line, or gives a goto a label somewhere; and answers its kind.
func (g *grower) mend(p *part, fault api.Fault) api.NodeKind {
	for _, n := range p.all() {
		for _, kid := range n.parts {
			if kid.Line != fault.Line {
				continue
			}
			kind := kid.Kind
			if n.Kind == api.NLocalFunc {
				kid = n
			}
			switch {
			case fault.Err == api.ErrLabel && g.chance(2):
				g.give(p, kid.Name)
				return kind
			case nodes.Stat(kid.Kind):
				*kid = *do()
			case kid.Kind == api.NName:
				kid.Name = "nowhere"
			default:
				*kid = *of(api.NNil)
			}
			g.number(kid)
			return kind
		}
	}
	return 0
}

// give puts a label of that name into some block of p.
func (g *grower) give(p *part, name string) {
	all := p.all()
	in := all[g.r.Intn(len(all))]
	for in.Kind != api.NBlock {
		in = all[g.r.Intn(len(all))]
	}
	label := of(api.NLabel).name(name)
	g.number(label)
	in.parts = slices.Insert(in.parts, g.r.Intn(max(len(in.parts), 1)), label)
}

// seen counts what grown texts have, so that none of it is missing.
type seen map[string]int

func (s seen) program(p api.Program) {
	s["programs"]++
	for _, f := range p.Protos {
		s["slots"] = max(s["slots"], f.Slots)
		s["ups"] = max(s["ups"], len(f.Ups))
		for _, up := range f.Ups {
			s[fmt.Sprint("up ", up.Local)]++
		}
		for i, st := range f.Stmts {
			s["stmt "+stmtWords[st.Kind]]++
			if st.Kind == api.SJump && st.Next > i+1 {
				s["jump on"]++
			}
			if st.Kind == api.SJump && st.Next >= 0 && st.Next <= i {
				s["jump back"]++
			}
		}
	}
	s["functions"] = max(s["functions"], len(p.Protos))
}

// grow asks of a text by chance, and of those that it is mended to, what Resolve must say.
func (g *grower) grow(t *testing.T, s seen) {
	p := g.text()
	for {
		laid := lay(p)
		if !nodes.Right(laid) {
			t.Fatal("a grown text is not right")
		}
		laid = moved(laid, g.r.Perm(len(laid.Nodes)))
		before := copied(laid)
		program, fault := flow.Resolve(laid)
		want, wantFault := read(laid)
		if fault != wantFault || whole(program) != whole(want) {
			t.Fatalf("%s\nResolve:\n%v %s, the second reading:\n%v %s", wholeSyntax(laid), fault, whole(program), wantFault, whole(want))
		}
		if !reflect.DeepEqual(laid, before) {
			t.Fatal("it was changed")
		}
		if fault == (api.Fault{}) {
			follows(t, "grown", laid, program)
			s.program(program)
			return
		}
		s[fmt.Sprintf("fault %d of %d", fault.Err, g.mend(p, fault))]++
	}
}

// P8.1, P8.2: texts by chance, small and great, with few names and with many.
func TestGrown(t *testing.T) {
	found := seen{}
	rounds := func(count int, g grower) {
		for i := range count {
			each := g
			each.r = rand.New(rand.NewSource(int64(i)))
			each.fuel = 1 + each.r.Intn(g.fuel)
			each.grow(t, found)
		}
	}
	rounds(4000, grower{fuel: 25, names: 3, labels: 2, wide: 2, functions: 4, stop: 2})
	rounds(300, grower{fuel: 150, names: 6, labels: 5, wide: 3, functions: 6, stop: 2})
	rounds(60, grower{fuel: 250, names: 90, labels: 30, wide: 60, functions: 3, stop: 2})
	rounds(12, grower{fuel: 600, names: 90, labels: 30, wide: 40, functions: 12, stop: 60})
	rounds(12, grower{fuel: 900, names: 4, labels: 90, wide: 2, functions: 1, stop: 2})
	t.Log(found)
	for what, least := range map[string]int{
		fmt.Sprintf("fault %d of %d", api.ErrLong, api.NFunc):   1,
		fmt.Sprintf("fault %d of %d", api.ErrLong, api.NLocal):  15,
		fmt.Sprintf("fault %d of %d", api.ErrLong, api.NName):   30,
		fmt.Sprintf("fault %d of %d", api.ErrDots, api.NDots):   50,
		fmt.Sprintf("fault %d of %d", api.ErrBreak, api.NBreak): 200,
		fmt.Sprintf("fault %d of %d", api.ErrTwice, api.NLabel): 1000,
		fmt.Sprintf("fault %d of %d", api.ErrLabel, api.NGoto):  1000,
		fmt.Sprintf("fault %d of %d", api.ErrInto, api.NGoto):   50,
		"slots": 120, "ups": 60, "functions": 200, "up true": 1000, "up false": 1000, "jump on": 1000, "jump back": 1000,
	} {
		if found[what] < least {
			t.Errorf("%s: %d", what, found[what])
		}
	}
	for _, word := range stmtWords[1:] {
		if what := "stmt " + word; found[what] < 500 {
			t.Errorf("%s: %d", what, found[what])
		}
	}
}
