package flow_test

import (
	"fmt"
	"slices"

	"twinstep/api"
)

// follows_test.go: what follows of a program: that its statements go on as the blocks of the text do.

// How many things a trace tells at most, and how far it goes where nothing is told.
const (
	traceLength = 150
	traceSteps  = 5000
)

// trace is what happens, in order, when a function runs; what its tests come to is told by a number.
type trace struct {
	seed   uint64
	told   []string
	steps  int
	choice int
}

// step tells whether to go on.
func (t *trace) step() bool {
	t.steps++
	return t.steps < traceSteps && len(t.told) < traceLength
}

func (t *trace) tell(what string, line int) {
	t.told = append(t.told, fmt.Sprint(what, line))
}

// test tells what the next test comes to.
func (t *trace) test() bool {
	t.choice++
	return (t.seed*6364136223846793005+uint64(t.choice)*1442695040888963407)*2862933555777941757>>61 < 4
}

// signal is how a block is left: at its end, by a break, by a goto, or not at all (the function is at its end, or the trace).
type signal struct {
	kind  api.NodeKind
	label string
}

// walkBlock goes through the block at n as the language's words tell it.
func (t *trace) walkBlock(s api.Syntax, n int) signal {
	kids := s.Nodes[n].Kids
	for i := 0; i < len(kids); i++ {
		if !t.step() {
			return signal{kind: api.NReturn}
		}
		left := t.walkStat(s, s.Nodes[kids[i]])
		if left.kind == api.NGoto {
			behind := slices.IndexFunc(kids, func(k int) bool { return s.Nodes[k].Kind == api.NLabel && s.Nodes[k].Name == left.label })
			if behind >= 0 {
				i, left = behind, signal{}
			}
		}
		if left != (signal{}) {
			return left
		}
	}
	return signal{}
}

func (t *trace) walkStat(s api.Syntax, n api.Node) signal {
	last := len(n.Kids) - 1
	condition := func() bool { t.tell("test", n.Line); return t.test() }
	switch n.Kind {
	case api.NDo:
		return t.walkBlock(s, n.Kids[0])
	case api.NWhile:
		return t.rounds(s, n.Kids[1], condition, nil)
	case api.NRepeat:
		return t.rounds(s, n.Kids[0], nil, condition)
	case api.NFor:
		t.tell("forprep", n.Line)
		return t.rounds(s, n.Kids[last], func() bool { t.tell("forloop", n.Line); return t.test() }, nil)
	case api.NForIn:
		t.tell("inprep", n.Line)
		return t.rounds(s, n.Kids[last], func() bool { t.tell("inloop", n.Line); return t.test() }, nil)
	case api.NIf:
		for i := 0; i < last; i += 2 {
			if condition() {
				return t.walkBlock(s, n.Kids[i+1])
			}
		}
		if last%2 == 0 {
			return t.walkBlock(s, n.Kids[last])
		}
	case api.NBreak:
		return signal{kind: api.NBreak}
	case api.NGoto:
		return signal{api.NGoto, n.Name}
	case api.NReturn:
		t.tell("return", n.Line)
		return signal{kind: api.NReturn}
	case api.NLocal:
		t.tell("local", n.Line)
	case api.NAssign:
		t.tell("assign", n.Line)
	case api.NCallStat:
		t.tell("call", n.Line)
	case api.NLocalFunc:
		t.tell("func", n.Line)
	}
	return signal{}
}

// rounds goes through a block while what is asked ahead of it says so, until what is asked behind it does.
func (t *trace) rounds(s api.Syntax, block int, ahead, behind func() bool) signal {
	for t.step() {
		if ahead != nil && !ahead() {
			return signal{}
		}
		left := t.walkBlock(s, block)
		if left.kind == api.NBreak {
			return signal{}
		}
		if left != (signal{}) {
			return left
		}
		if behind != nil && behind() {
			return signal{}
		}
	}
	return signal{kind: api.NReturn}
}

// run goes through a function's statements.
func (t *trace) run(f api.Proto) {
	for at := f.Start; at >= 0 && t.step(); {
		s := f.Stmts[at]
		if s.Kind != api.SJump {
			t.tell(stmtWords[s.Kind], s.Line)
		}
		at = s.Next
		if s.Kind == api.STest || s.Kind == api.SForLoop || s.Kind == api.SInLoop {
			if !t.test() {
				at = s.Else
			}
		}
	}
}

// strays tells how some function of p, which s tells, goes another way than its text; or nothing.
func strays(s api.Syntax, p api.Program) string {
	functions := []int{}
	var find func(n int)
	find = func(n int) {
		if s.Nodes[n].Kind == api.NFunc {
			functions = append(functions, n)
		}
		for _, k := range s.Nodes[n].Kids {
			find(k)
		}
	}
	find(s.Root)
	for i, n := range functions {
		for seed := range uint64(8) {
			want, got := trace{seed: seed}, trace{seed: seed}
			want.walkBlock(s, s.Nodes[n].Kids[0])
			got.run(p.Protos[i])
			// Ways of many steps of which nothing is told are cut at unlike places.
			length := traceLength
			if want.steps >= traceSteps || got.steps >= traceSteps {
				length = min(len(want.told), len(got.told))
			}
			w, g := want.told[:min(length, len(want.told))], got.told[:min(length, len(got.told))]
			if !slices.Equal(w, g) {
				return fmt.Sprintf("function %d, seed %d: %q, want %q", i, seed, g, w)
			}
		}
	}
	return ""
}
