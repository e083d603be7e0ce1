package flow

import "twinstep/api"

// label is a label of a scope: the place of the statement behind it, and the number of the scope's last variable ahead of it. At its block's end that is 0: a goto may go over variables that nobody can name behind it.
type label struct {
	behind int
	newest int
}

// leap is a goto: which statement of which function, and how many variables were made ahead of it.
type leap struct {
	proto, stmt int
	name        string
	line        int
	scope       *scope
	made        int
}

// label adds an NLabel to the scope.
func (r *resolver) label(n api.Node, atEnd bool) {
	s := r.at.scope
	if _, ok := s.sees(n.Name); ok {
		r.fail(api.ErrTwice, n.Line)
	}
	l := label{behind: r.here(), newest: s.newest}
	if atEnd {
		l.newest = 0
	}
	if s.labels == nil {
		s.labels = map[string]label{}
	}
	s.labels[n.Name] = l
}

// sees answers the label of that name that can be seen, of those that were added so far; of two the one of the inner block.
func (s *scope) sees(name string) (label, bool) {
	for ; s != nil; s = s.around {
		if l, ok := s.labels[name]; ok {
			return l, true
		}
	}
	return label{}, false
}

// leap lists an NGoto. Where it goes on is told when all labels have been added.
func (r *resolver) leap(n api.Node) {
	r.leaps = append(r.leaps, leap{
		proto: r.at.number,
		stmt:  r.jump(0, n.Line),
		name:  n.Name,
		line:  n.Line,
		scope: r.at.scope,
		made:  r.made,
	})
}

// land lets each goto go on behind its label.
func (r *resolver) land() {
	for _, g := range r.leaps {
		l, ok := g.scope.sees(g.name)
		switch {
		case !ok:
			r.fail(api.ErrLabel, g.line)
		case l.newest > g.made:
			// A label ahead of the goto has no variable that was made behind it.
			r.fail(api.ErrInto, g.line)
		default:
			r.protos[g.proto].Stmts[g.stmt].Next = l.behind
		}
	}
}

// loop does what it is handed; breaks within go on behind all that it lists.
func (r *resolver) loop(do func()) {
	f := r.at
	inmost := len(f.loops)
	f.loops = append(f.loops, nil)
	do()
	r.onHere(f.loops[inmost])
	f.loops = f.loops[:inmost]
}

// leave lists an NBreak.
func (r *resolver) leave(n api.Node) {
	f := r.at
	inmost := len(f.loops) - 1
	if inmost < 0 {
		r.fail(api.ErrBreak, n.Line)
		return
	}
	f.loops[inmost] = append(f.loops[inmost], r.jump(0, n.Line))
}

// onHere lets jumps go on at the statement that will be listed next.
func (r *resolver) onHere(jumps []int) {
	for _, place := range jumps {
		r.stmt(place).Next = r.here()
	}
}
