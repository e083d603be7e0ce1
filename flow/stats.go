package flow

import (
	"slices"

	"twinstep/api"
)

// put lists a statement that goes on at the next one, and answers its place.
func (r *resolver) put(s api.Stmt) int {
	all := &r.at.program.Stmts
	s.Next = len(*all) + 1
	*all = append(*all, s)
	return len(*all) - 1
}

// here answers the place of the statement that will be listed next.
func (r *resolver) here() int { return len(r.at.program.Stmts) }

// stmt answers the statement at a place, up to when the next one is listed.
func (r *resolver) stmt(place int) *api.Stmt { return &r.at.program.Stmts[place] }

// jump lists a statement that does nothing but go on at to.
func (r *resolver) jump(to, line int) int {
	place := r.put(api.Stmt{Kind: api.SJump, Line: line})
	r.stmt(place).Next = to
	return place
}

// test lists the test of a condition.
func (r *resolver) test(condition, line int) int {
	return r.put(api.Stmt{Kind: api.STest, Exprs: r.exprs([]int{condition}), Line: line})
}

// block goes through a block. What is handed in, for the block of a repeat alone, is done ahead of its end, where its variables are still there.
func (r *resolver) block(place int, ahead func()) {
	r.within(func() {
		stats := r.nodes[place].Kids
		end := r.endLabels(stats)
		for i, stat := range stats {
			n := r.nodes[stat]
			if n.Kind == api.NLabel {
				r.label(n, i >= end && ahead == nil)
			} else {
				r.stat(n)
			}
		}
		if ahead != nil {
			ahead()
		}
	})
}

// endLabels answers from where on a block's statements are none but labels.
func (r *resolver) endLabels(stats []int) int {
	for i, stat := range slices.Backward(stats) {
		if r.nodes[stat].Kind != api.NLabel {
			return i + 1
		}
	}
	return 0
}

// stat goes through a statement that is no label.
func (r *resolver) stat(n api.Node) {
	switch n.Kind {
	case api.NLocal:
		exprs := r.exprs(n.Kids)
		r.put(api.Stmt{Kind: api.SLocal, Slots: r.makeAll(n.Names, n.Line), Exprs: exprs, Line: n.Line})
	case api.NAssign:
		targets := r.exprs(n.Kids[:n.N])
		r.put(api.Stmt{Kind: api.SAssign, Targets: targets, Exprs: r.exprs(n.Kids[n.N:]), Line: n.Line})
	case api.NCallStat:
		r.put(api.Stmt{Kind: api.SCall, Exprs: r.exprs(n.Kids), Line: n.Line})
	case api.NDo:
		r.block(n.Kids[0], nil)
	case api.NWhile:
		r.while(n)
	case api.NRepeat:
		r.repeat(n)
	case api.NIf:
		r.branches(n)
	case api.NFor:
		r.rounds(n, api.SForPrep, api.SForLoop)
	case api.NForIn:
		r.rounds(n, api.SInPrep, api.SInLoop)
	case api.NLocalFunc:
		slots := r.makeAll(n.Names, n.Line)
		r.put(api.Stmt{Kind: api.SFunc, Slots: slots, Exprs: r.exprs(n.Kids), Line: n.Line})
	case api.NReturn:
		place := r.put(api.Stmt{Kind: api.SReturn, Exprs: r.exprs(n.Kids), Line: n.Line})
		r.stmt(place).Next = -1
	case api.NBreak:
		r.leave(n)
	case api.NGoto:
		r.leap(n)
	}
}

func (r *resolver) while(n api.Node) {
	r.loop(func() {
		test := r.test(n.Kids[0], n.Line)
		r.block(n.Kids[1], nil)
		r.jump(test, n.Line)
		r.stmt(test).Else = r.here()
	})
}

func (r *resolver) repeat(n api.Node) {
	r.loop(func() {
		first := r.here()
		r.block(n.Kids[0], func() {
			test := r.test(n.Kids[1], n.Line)
			again := r.jump(first, n.Line)
			r.stmt(test).Next, r.stmt(test).Else = r.here(), again
		})
	})
}

// branches goes through an if.
func (r *resolver) branches(n api.Node) {
	var done []int
	kids := n.Kids
	for ; len(kids) > 1; kids = kids[2:] {
		test := r.test(kids[0], n.Line)
		r.block(kids[1], nil)
		if len(kids) > 2 {
			done = append(done, r.jump(0, n.Line))
		}
		r.stmt(test).Else = r.here()
	}
	if len(kids) > 0 {
		r.block(kids[0], nil)
	}
	r.onHere(done)
}

// rounds goes through a for of either kind, whose statements are of these kinds.
func (r *resolver) rounds(n api.Node, prep, step api.StmtKind) {
	last := len(n.Kids) - 1
	exprs := r.exprs(n.Kids[:last])
	r.loop(func() {
		r.within(func() {
			hidden := r.hidden(n.Line)
			own := r.makeAll(n.Names, n.Line)
			r.put(api.Stmt{Kind: prep, Slots: []int{hidden}, Exprs: exprs, Line: n.Line})
			round := r.put(api.Stmt{Kind: step, Slots: slices.Insert(own, 0, hidden), Line: n.Line})
			r.block(n.Kids[last], nil)
			r.jump(round, n.Line)
			r.stmt(round).Else = r.here()
		})
	})
}
