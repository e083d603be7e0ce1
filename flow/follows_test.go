package flow_test

import (
	"fmt"
	"slices"

	"twinstep/api"
)

// follows_test.go: what follows of a program: which ones may be, by chapter 9's words, and that its statements go on as the blocks of the text do.

// wrong tells what a program has that it may not have (chapter 9), or nothing.
func wrong(p api.Program) string {
	if len(p.Protos) < 1 || len(p.Protos) > 200 || len(p.Strs) > 4096 {
		return "how many"
	}
	for i, s := range p.Strs {
		if len(s) > 65535 || slices.Contains(p.Strs[:i], s) {
			return "Strs"
		}
	}
	if root := p.Protos[0]; root.Params != 0 || !root.More || len(root.Ups) > 0 {
		return "function 0"
	}
	around := make([][]int, len(p.Protos))
	for i, f := range p.Protos {
		if what := wrongFunction(p, f); what != "" {
			return fmt.Sprint("function ", i, ": ", what)
		}
		for _, e := range f.Exprs {
			if e.Kind == api.EFunc {
				around[e.N] = append(around[e.N], i)
			}
		}
	}
	for i, f := range p.Protos {
		if i == 0 && len(around[0]) == 0 {
			continue
		}
		if i == 0 || len(around[i]) != 1 || around[i][0] >= i {
			return fmt.Sprint("around function ", i)
		}
		outer := p.Protos[around[i][0]]
		for _, up := range f.Ups {
			if up.At < 0 || up.Local && (up.At >= outer.Slots || !outer.Boxed[up.At]) || !up.Local && up.At >= len(outer.Ups) {
				return fmt.Sprint("Ups of function ", i)
			}
		}
	}
	return ""
}

func wrongFunction(p api.Program, f api.Proto) string {
	if f.Slots < 0 || f.Slots > 120 || f.Params < 0 || f.Params > f.Slots || len(f.Boxed) != f.Slots {
		return "slots"
	}
	if len(f.Ups) > 60 || len(f.Stmts) > 4096 || len(f.Exprs) > 4096 {
		return "how many"
	}
	place := func(i int) bool { return -1 <= i && i < len(f.Stmts) }
	if f.Start != -1 && len(f.Stmts) == 0 || len(f.Stmts) > 0 && f.Start < 0 || !place(f.Start) {
		return "Start"
	}
	used := make([]int, len(f.Exprs))
	for i, e := range f.Exprs {
		for _, k := range e.Kids {
			if k < 0 || k >= i {
				return fmt.Sprint("kids of expression ", i)
			}
			used[k]++
		}
		if !exprFits(p, f, e) {
			return fmt.Sprint("expression ", i)
		}
	}
	for i, s := range f.Stmts {
		for _, e := range append(slices.Clone(s.Targets), s.Exprs...) {
			if e < 0 || e >= len(f.Exprs) || !isValue(f.Exprs[e]) {
				return fmt.Sprint("expressions of statement ", i)
			}
			used[e]++
		}
		for _, slot := range s.Slots {
			if slot < 0 || slot >= f.Slots {
				return fmt.Sprint("slots of statement ", i)
			}
		}
		if !place(s.Next) || !place(s.Else) || s.Line < 1 || !stmtFits(f, s) {
			return fmt.Sprint("statement ", i)
		}
	}
	for i, count := range used {
		if count != 1 {
			return fmt.Sprint("expression ", i, " stands ", count, " times")
		}
	}
	return ""
}

func isValue(e api.Expr) bool { return e.Kind != api.EItem && e.Kind != api.ENamed }

func exprFits(p api.Program, f api.Proto, e api.Expr) bool {
	values, items := 0, 0
	for _, k := range e.Kids {
		if isValue(f.Exprs[k]) {
			values++
		} else {
			items++
		}
	}
	n := func(count int) bool { return 0 <= e.N && e.N < int64(count) }
	only := func(count int) bool { return items == 0 && values == count }
	called := items == 0 && 1 <= values && values <= 201
	switch e.Kind {
	case api.ENil, api.ETrue, api.EFalse:
		return e.N == 0 && only(0)
	case api.EInt:
		return only(0)
	case api.EStr, api.EGlobal:
		return n(len(p.Strs)) && only(0)
	case api.EDots:
		return f.More && e.N == 0 && only(0)
	case api.EFunc:
		return n(len(p.Protos)) && only(0)
	case api.ESlot:
		return n(f.Slots) && only(0)
	case api.EUp:
		return n(len(f.Ups)) && only(0)
	case api.EIndex, api.EAnd, api.EOr, api.ENamed:
		return e.N == 0 && only(2)
	case api.ECall:
		return e.N == 0 && called
	case api.EMethod:
		return n(len(p.Strs)) && called
	case api.EBin:
		return 1 <= e.N && e.N <= 17 && only(2)
	case api.EUn:
		return 18 <= e.N && e.N <= 21 && only(1)
	case api.ETable:
		return e.N == 0 && values == 0 && items <= 4096
	case api.EItem, api.EParen:
		return e.N == 0 && only(1)
	}
	return false
}

func stmtFits(f api.Proto, s api.Stmt) bool {
	slots, exprs, targets := len(s.Slots), len(s.Exprs), len(s.Targets)
	if slots > 200 || exprs > 200 || targets > 200 || s.Kind != api.SAssign && targets > 0 {
		return false
	}
	test := s.Kind == api.STest || s.Kind == api.SForLoop || s.Kind == api.SInLoop
	if !test && s.Else != 0 {
		return false
	}
	kind := func(kinds ...api.ExprKind) bool {
		return exprs == 1 && slices.Contains(kinds, f.Exprs[s.Exprs[0]].Kind)
	}
	hidden := slots > 0 && s.Slots[0]+2 < f.Slots
	switch s.Kind {
	case api.SLocal:
		return slots >= 1
	case api.SAssign:
		for _, t := range s.Targets {
			if !slices.Contains([]api.ExprKind{api.ESlot, api.EUp, api.EGlobal, api.EIndex}, f.Exprs[t].Kind) {
				return false
			}
		}
		return targets >= 1 && exprs >= 1 && slots == 0
	case api.SCall:
		return slots == 0 && kind(api.ECall, api.EMethod)
	case api.STest:
		return slots == 0 && exprs == 1
	case api.SForPrep:
		return slots == 1 && hidden && (exprs == 2 || exprs == 3)
	case api.SForLoop:
		return slots == 2 && hidden && exprs == 0
	case api.SInPrep:
		return slots == 1 && hidden && exprs >= 1
	case api.SInLoop:
		return slots >= 2 && hidden && exprs == 0
	case api.SFunc:
		return slots == 1 && kind(api.EFunc)
	case api.SReturn:
		return slots == 0 && s.Next == -1
	case api.SJump:
		return slots == 0 && exprs == 0
	}
	return false
}

// How many things a trace tells at most, and how far it goes where nothing is told.
const (
	traceLength = 150
	traceSteps  = 5000
)

// trace is what happens, in order, when a function runs; what its tests come to is told by a number.
type trace struct {
	seed   uint64
	told   []string
	steps  int
	choice int
}

// step tells whether to go on.
func (t *trace) step() bool {
	t.steps++
	return t.steps < traceSteps && len(t.told) < traceLength
}

func (t *trace) tell(what string, line int) {
	t.told = append(t.told, fmt.Sprint(what, line))
}

// test tells what the next test comes to.
func (t *trace) test() bool {
	t.choice++
	return (t.seed*6364136223846793005+uint64(t.choice)*1442695040888963407)*2862933555777941757>>61 < 4
}

// signal is how a block is left: at its end, by a break, by a goto, or not at all (the function is at its end, or the trace).
type signal struct {
	kind  api.NodeKind
	label string
}

// walkBlock goes through the block at n as the language's words tell it.
func (t *trace) walkBlock(s api.Syntax, n int) signal {
	kids := s.Nodes[n].Kids
	for i := 0; i < len(kids); i++ {
		if !t.step() {
			return signal{kind: api.NReturn}
		}
		left := t.walkStat(s, s.Nodes[kids[i]])
		if left.kind == api.NGoto {
			behind := slices.IndexFunc(kids, func(k int) bool { return s.Nodes[k].Kind == api.NLabel && s.Nodes[k].Name == left.label })
			if behind >= 0 {
				i, left = behind, signal{}
			}
		}
		if left != (signal{}) {
			return left
		}
	}
	return signal{}
}

func (t *trace) walkStat(s api.Syntax, n api.Node) signal {
	last := len(n.Kids) - 1
	condition := func() bool { t.tell("test", n.Line); return t.test() }
	switch n.Kind {
	case api.NDo:
		return t.walkBlock(s, n.Kids[0])
	case api.NWhile:
		return t.rounds(s, n.Kids[1], condition, nil)
	case api.NRepeat:
		return t.rounds(s, n.Kids[0], nil, condition)
	case api.NFor:
		t.tell("forprep", n.Line)
		return t.rounds(s, n.Kids[last], func() bool { t.tell("forloop", n.Line); return t.test() }, nil)
	case api.NForIn:
		t.tell("inprep", n.Line)
		return t.rounds(s, n.Kids[last], func() bool { t.tell("inloop", n.Line); return t.test() }, nil)
	case api.NIf:
		for i := 0; i < last; i += 2 {
			if condition() {
				return t.walkBlock(s, n.Kids[i+1])
			}
		}
		if last%2 == 0 {
			return t.walkBlock(s, n.Kids[last])
		}
	case api.NBreak:
		return signal{kind: api.NBreak}
	case api.NGoto:
		return signal{api.NGoto, n.Name}
	case api.NReturn:
		t.tell("return", n.Line)
		return signal{kind: api.NReturn}
	case api.NLocal:
		t.tell("local", n.Line)
	case api.NAssign:
		t.tell("assign", n.Line)
	case api.NCallStat:
		t.tell("call", n.Line)
	case api.NLocalFunc:
		t.tell("func", n.Line)
	}
	return signal{}
}

// rounds goes through a block while what is asked ahead of it says so, until what is asked behind it does.
func (t *trace) rounds(s api.Syntax, block int, ahead, behind func() bool) signal {
	for t.step() {
		if ahead != nil && !ahead() {
			return signal{}
		}
		left := t.walkBlock(s, block)
		if left.kind == api.NBreak {
			return signal{}
		}
		if left != (signal{}) {
			return left
		}
		if behind != nil && behind() {
			return signal{}
		}
	}
	return signal{kind: api.NReturn}
}

// run goes through a function's statements.
func (t *trace) run(f api.Proto) {
	for at := f.Start; at >= 0 && t.step(); {
		s := f.Stmts[at]
		if s.Kind != api.SJump {
			t.tell(stmtWords[s.Kind], s.Line)
		}
		at = s.Next
		if s.Kind == api.STest || s.Kind == api.SForLoop || s.Kind == api.SInLoop {
			if !t.test() {
				at = s.Else
			}
		}
	}
}

// strays tells how some function of p, which s tells, goes another way than its text; or nothing.
func strays(s api.Syntax, p api.Program) string {
	functions := []int{}
	var find func(n int)
	find = func(n int) {
		if s.Nodes[n].Kind == api.NFunc {
			functions = append(functions, n)
		}
		for _, k := range s.Nodes[n].Kids {
			find(k)
		}
	}
	find(s.Root)
	for i, n := range functions {
		for seed := range uint64(8) {
			want, got := trace{seed: seed}, trace{seed: seed}
			want.walkBlock(s, s.Nodes[n].Kids[0])
			got.run(p.Protos[i])
			// Ways of many steps of which nothing is told are cut at unlike places.
			length := traceLength
			if want.steps >= traceSteps || got.steps >= traceSteps {
				length = min(len(want.told), len(got.told))
			}
			w, g := want.told[:min(length, len(want.told))], got.told[:min(length, len(got.told))]
			if !slices.Equal(w, g) {
				return fmt.Sprintf("function %d, seed %d: %q, want %q", i, seed, g, w)
			}
		}
	}
	return ""
}
