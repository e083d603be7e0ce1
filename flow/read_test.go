package flow_test

import (
	"fmt"
	"slices"

	"twinstep/api"
)

// read_test.go: the chapter's words once more, told of when nodes begin and end: what read answers is what Resolve should.

// variable is there from a time on until a node ends.
type variable struct {
	name        string
	owner       int // its function
	from, until int
	slot, line  int
}

// reading is a right syntax, with the times at which its nodes begin and end.
type reading struct {
	s          api.Syntax
	now        int
	begin, end []int
	parent     []int // of the root: -1
	owner      []int // the function in which a node stands, which an NFunc does not do in itself; of the root: -1
	order      []int // all nodes in the order in which they begin
	vars       []variable
	ups        map[int][]int // each function's variables of others
	boxed      map[int]bool
	means      map[int]int // which variable an NName means
	faults     map[int]api.Fault
}

// named are the kinds of expressions whose nodes have the same name.
var named = map[api.NodeKind]api.ExprKind{
	api.NNil: api.ENil, api.NTrue: api.ETrue, api.NFalse: api.EFalse, api.NInt: api.EInt, api.NStr: api.EStr, api.NDots: api.EDots,
	api.NFunc: api.EFunc, api.NIndex: api.EIndex, api.NCall: api.ECall, api.NMethod: api.EMethod, api.NBin: api.EBin, api.NAnd: api.EAnd,
	api.NOr: api.EOr, api.NUn: api.EUn, api.NTable: api.ETable, api.NItem: api.EItem, api.NNamed: api.ENamed, api.NParen: api.EParen,
}

// read answers the program that s tells, or the first fault. It is right.
func read(s api.Syntax) (api.Program, api.Fault) {
	count := len(s.Nodes)
	r := &reading{s: s, begin: make([]int, count), end: make([]int, count), parent: make([]int, count), owner: make([]int, count),
		ups: map[int][]int{}, boxed: map[int]bool{}, means: map[int]int{}, faults: map[int]api.Fault{}}
	r.walk(s.Root, -1, -1)
	r.slots()
	r.names()
	r.words()
	for when := range r.now + 1 {
		if fault, is := r.faults[when]; is {
			return api.Program{}, fault
		}
	}
	for _, n := range r.order {
		if s.Nodes[n].Kind == api.NGoto {
			if fault := r.gotoFault(n); fault != api.OK {
				return api.Program{}, api.Fault{Err: fault, Line: s.Nodes[n].Line}
			}
		}
	}
	return r.program(), api.Fault{}
}

// fault notes the fault of a time, but not a second one.
func (r *reading) fault(when int, err api.Errno, line int) {
	if _, is := r.faults[when]; !is {
		r.faults[when] = api.Fault{Err: err, Line: line}
	}
}

// walk goes through a node and all in it.
func (r *reading) walk(n, parent, owner int) {
	r.now++
	r.begin[n], r.parent[n], r.owner[n] = r.now, parent, owner
	r.order = append(r.order, n)
	node := r.s.Nodes[n]
	within := owner
	switch node.Kind {
	case api.NFunc:
		within = n
		r.born(n, n, n, node.Names)
	case api.NLocalFunc:
		r.born(n, owner, r.lasts(parent), node.Names)
	}
	for i, k := range node.Kids {
		if i == len(node.Kids)-1 && (node.Kind == api.NFor || node.Kind == api.NForIn) {
			r.now++
			r.born(n, owner, k, append([]string{"", "", ""}, node.Names...))
		}
		r.walk(k, n, within)
	}
	r.now++
	r.end[n] = r.now
	if node.Kind == api.NLocal {
		r.born(n, owner, r.lasts(parent), node.Names)
	}
}

// lasts answers the node up to whose end a block's variables are there.
func (r *reading) lasts(block int) int {
	if up := r.parent[block]; r.s.Nodes[up].Kind == api.NRepeat {
		return up
	}
	return block
}

// born notes variables that are made now.
func (r *reading) born(maker, owner, until int, names []string) {
	for _, name := range names {
		r.vars = append(r.vars, variable{name: name, owner: owner, from: r.now, until: until, line: r.s.Nodes[maker].Line})
	}
}

func (r *reading) there(v variable, when int) bool {
	return v.from <= when && when < r.end[v.until]
}

// slots tells each variable's slot: how many are there when it is made.
func (r *reading) slots() {
	for i := range r.vars {
		v := &r.vars[i]
		for _, u := range r.vars[:i] {
			if u.owner == v.owner && r.there(u, v.from) {
				v.slot++
			}
		}
		if v.slot >= 120 {
			r.fault(v.from, api.ErrLong, v.line)
		}
	}
}

// names tells which variable each name means, and what functions have as Ups by that.
func (r *reading) names() {
	for _, n := range r.order {
		node := r.s.Nodes[n]
		if node.Kind != api.NName {
			continue
		}
		for f := r.owner[n]; f >= 0; f = r.owner[f] {
			v := r.newest(node.Name, f, r.begin[n])
			if v < 0 {
				continue
			}
			r.means[n] = v
			for g := r.owner[n]; g != f; g = r.owner[g] {
				r.boxed[v] = true
				if !slices.Contains(r.ups[g], v) {
					r.ups[g] = append(r.ups[g], v)
				}
				if len(r.ups[g]) > 60 {
					r.fault(r.begin[n], api.ErrLong, node.Line)
				}
			}
			break
		}
	}
}

// newest answers the variable of that name that a function has made last and that is there, or -1.
func (r *reading) newest(name string, owner, when int) int {
	found := -1
	for i, v := range r.vars {
		if v.name == name && v.owner == owner && r.there(v, when) {
			found = i
		}
	}
	return found
}

// words looks for the faults of the nodes that are no variables and no names.
func (r *reading) words() {
	functions := 0
	for at, n := range r.order {
		node := r.s.Nodes[n]
		switch node.Kind {
		case api.NFunc:
			if functions >= 200 {
				r.fault(r.begin[n], api.ErrLong, node.Line)
			}
			functions++
		case api.NDots:
			if r.s.Nodes[r.owner[n]].N == 0 {
				r.fault(r.begin[n], api.ErrDots, node.Line)
			}
		case api.NBreak:
			if r.loop(n) < 0 {
				r.fault(r.begin[n], api.ErrBreak, node.Line)
			}
		case api.NLabel:
			for _, m := range r.order[:at] {
				if other := r.s.Nodes[m]; other.Kind == api.NLabel && other.Name == node.Name && r.seen(m, n) {
					r.fault(r.begin[n], api.ErrTwice, node.Line)
				}
			}
		}
	}
}

// loop answers the inmost loop of its function around n, or -1.
func (r *reading) loop(n int) int {
	for ; n >= 0; n = r.parent[n] {
		switch r.s.Nodes[n].Kind {
		case api.NWhile, api.NRepeat, api.NFor, api.NForIn:
			return n
		case api.NFunc:
			return -1
		}
	}
	return -1
}

// in tells whether n is in m.
func (r *reading) in(n, m int) bool {
	return r.begin[m] <= r.begin[n] && r.end[n] <= r.end[m]
}

// seen tells whether a label can be seen at n.
func (r *reading) seen(label, n int) bool {
	return r.owner[label] == r.owner[n] && r.in(n, r.parent[label])
}

// label answers the label that a goto asks for, that of the inmost block; or -1.
func (r *reading) label(n int) int {
	found := -1
	for _, m := range r.order {
		node := r.s.Nodes[m]
		if node.Kind == api.NLabel && node.Name == r.s.Nodes[n].Name && r.seen(m, n) && (found < 0 || r.in(r.parent[m], r.parent[found])) {
			found = m
		}
	}
	return found
}

func (r *reading) gotoFault(n int) api.Errno {
	label := r.label(n)
	if label < 0 {
		return api.ErrLabel
	}
	if r.begin[label] < r.begin[n] || r.atEnd(label) {
		return api.OK
	}
	block := r.parent[label]
	for _, v := range r.vars {
		if v.until == r.lasts(block) && v.owner == r.owner[n] && r.there(v, r.begin[label]) && !r.there(v, r.begin[n]) {
			return api.ErrInto
		}
	}
	return api.OK
}

func (r *reading) atEnd(label int) bool {
	block := r.parent[label]
	for _, k := range r.s.Nodes[block].Kids {
		if r.begin[k] > r.begin[label] && r.s.Nodes[k].Kind != api.NLabel {
			return false
		}
	}
	return r.s.Nodes[r.parent[block]].Kind != api.NRepeat
}

// program answers the program, of a text without a fault.
func (r *reading) program() api.Program {
	var p api.Program
	numbers := map[int]int{}
	for _, n := range r.order {
		node := r.s.Nodes[n]
		_, variable := r.means[n]
		if node.Kind == api.NFunc {
			numbers[n] = len(numbers)
		}
		if text := node.Kind == api.NStr || node.Kind == api.NMethod || node.Kind == api.NName && !variable; text && !slices.Contains(p.Strs, node.Name) {
			p.Strs = append(p.Strs, node.Name)
		}
	}
	places := map[int]int{}
	lists := map[int][]api.Expr{}
	ended := slices.SortedFunc(slices.Values(r.order), func(a, b int) int { return r.end[a] - r.end[b] })
	for _, n := range ended {
		if e := r.expr(n, p.Strs, numbers, places); e.Kind != 0 && n != r.s.Root {
			owner := r.owner[n]
			places[n] = len(lists[owner])
			lists[owner] = append(lists[owner], e)
		}
	}
	for _, n := range r.order {
		if r.s.Nodes[n].Kind == api.NFunc {
			f := r.function(n)
			f.Exprs = lists[n]
			w := writer{r: r, places: places, marks: map[string]int{}}
			w.block(r.s.Nodes[n].Kids[0])
			f.Stmts, f.Start = w.done()
			p.Protos = append(p.Protos, f)
		}
	}
	return p
}

// function answers a function without its statements and expressions.
func (r *reading) function(n int) api.Proto {
	node := r.s.Nodes[n]
	f := api.Proto{Params: len(node.Names), More: node.N == 1}
	for _, v := range r.vars {
		if v.owner == n {
			f.Slots = max(f.Slots, v.slot+1)
		}
	}
	f.Boxed = make([]bool, f.Slots)
	for i, v := range r.vars {
		if v.owner == n && r.boxed[i] {
			f.Boxed[v.slot] = true
		}
	}
	for _, i := range r.ups[n] {
		if around := r.owner[n]; r.vars[i].owner == around {
			f.Ups = append(f.Ups, api.Up{Local: true, At: r.vars[i].slot})
		} else {
			f.Ups = append(f.Ups, api.Up{At: slices.Index(r.ups[around], i)})
		}
	}
	return f
}

// expr answers what a node is as an expression; a kind of 0: it is none.
func (r *reading) expr(n int, strs []string, numbers, places map[int]int) api.Expr {
	node := r.s.Nodes[n]
	e := api.Expr{Kind: named[node.Kind]}
	switch node.Kind {
	case api.NName:
		v, is := r.means[n]
		switch {
		case !is:
			e.Kind, e.N = api.EGlobal, int64(slices.Index(strs, node.Name))
		case r.vars[v].owner == r.owner[n]:
			e.Kind, e.N = api.ESlot, int64(r.vars[v].slot)
		default:
			e.Kind, e.N = api.EUp, int64(slices.Index(r.ups[r.owner[n]], v))
		}
	case api.NStr, api.NMethod:
		e.N = int64(slices.Index(strs, node.Name))
	case api.NInt, api.NBin, api.NUn:
		e.N = node.N
	case api.NFunc:
		e.N = int64(numbers[n])
		return e
	}
	for _, k := range node.Kids {
		e.Kids = append(e.Kids, places[k])
	}
	return e
}

// writer writes down the statements of one function, which go on at marks.
type writer struct {
	r       *reading
	places  map[int]int
	stmts   []api.Stmt
	on, els []string // the marks of Next and Else; "": behind, 0
	marks   map[string]int
}

func (w *writer) mark(kind string, n int) { w.marks[fmt.Sprint(kind, n)] = len(w.stmts) }

// write writes down a statement of node n; marks are where it goes on, and its Else.
func (w *writer) write(k api.StmtKind, n int, slots []int, targets, exprs []int, on, els string) {
	s := api.Stmt{Kind: k, Slots: slots, Line: w.r.s.Nodes[n].Line}
	for _, t := range targets {
		s.Targets = append(s.Targets, w.places[t])
	}
	for _, e := range exprs {
		s.Exprs = append(s.Exprs, w.places[e])
	}
	w.stmts, w.on, w.els = append(w.stmts, s), append(w.on, on), append(w.els, els)
}

// slots answers the slots of the variables that are made from a time on, as many as there are names.
func (w *writer) slots(from, count int) []int {
	var out []int
	for _, v := range w.r.vars {
		if v.from == from && len(out) < count {
			out = append(out, v.slot)
		}
	}
	return out
}

func (w *writer) block(n int) {
	for _, k := range w.r.s.Nodes[n].Kids {
		w.stat(k)
	}
}

func (w *writer) stat(n int) {
	node := w.r.s.Nodes[n]
	last := len(node.Kids) - 1
	end := fmt.Sprint("end", n)
	switch node.Kind {
	case api.NLocal:
		w.write(api.SLocal, n, w.slots(w.r.end[n], len(node.Names)), nil, node.Kids, "", "")
	case api.NAssign:
		w.write(api.SAssign, n, nil, node.Kids[:node.N], node.Kids[node.N:], "", "")
	case api.NCallStat:
		w.write(api.SCall, n, nil, nil, node.Kids, "", "")
	case api.NDo:
		w.block(node.Kids[0])
	case api.NWhile:
		w.mark("top", n)
		w.write(api.STest, n, nil, nil, node.Kids[:1], "", end)
		w.block(node.Kids[1])
		w.write(api.SJump, n, nil, nil, nil, fmt.Sprint("top", n), "")
	case api.NRepeat:
		w.mark("top", n)
		w.block(node.Kids[0])
		w.write(api.STest, n, nil, nil, node.Kids[1:], end, fmt.Sprint("again", n))
		w.mark("again", n)
		w.write(api.SJump, n, nil, nil, nil, fmt.Sprint("top", n), "")
	case api.NIf:
		for i := 0; i < last; i += 2 {
			w.write(api.STest, n, nil, nil, node.Kids[i:i+1], "", fmt.Sprint("pair", i, ".", n))
			w.block(node.Kids[i+1])
			if i+1 < last {
				w.write(api.SJump, n, nil, nil, nil, end, "")
			}
			w.mark(fmt.Sprint("pair", i, "."), n)
		}
		if last%2 == 0 {
			w.block(node.Kids[last])
		}
	case api.NFor, api.NForIn:
		slots := w.slots(w.r.begin[node.Kids[last]]-1, 3+len(node.Names))
		kinds := map[api.NodeKind][2]api.StmtKind{api.NFor: {api.SForPrep, api.SForLoop}, api.NForIn: {api.SInPrep, api.SInLoop}}[node.Kind]
		w.write(kinds[0], n, slots[:1:1], nil, node.Kids[:last], "", "")
		w.mark("top", n)
		w.write(kinds[1], n, append([]int{slots[0]}, slots[3:]...), nil, nil, "", end)
		w.block(node.Kids[last])
		w.write(api.SJump, n, nil, nil, nil, fmt.Sprint("top", n), "")
	case api.NLocalFunc:
		w.write(api.SFunc, n, w.slots(w.r.begin[n], 1), nil, node.Kids, "", "")
	case api.NReturn:
		w.write(api.SReturn, n, nil, nil, node.Kids, "none", "")
	case api.NBreak:
		w.write(api.SJump, n, nil, nil, nil, fmt.Sprint("end", w.r.loop(n)), "")
	case api.NGoto:
		w.write(api.SJump, n, nil, nil, nil, fmt.Sprint("label", w.r.label(n)), "")
	case api.NLabel:
		w.mark("label", n)
	}
	w.mark("end", n)
}

// done answers the statements, and where they start.
func (w *writer) done() ([]api.Stmt, int) {
	place := func(i int) int {
		if i >= len(w.stmts) {
			return -1
		}
		return i
	}
	w.marks["none"] = len(w.stmts)
	for i := range w.stmts {
		w.stmts[i].Next = place(i + 1)
		if w.on[i] != "" {
			w.stmts[i].Next = place(w.marks[w.on[i]])
		}
		if w.els[i] != "" {
			w.stmts[i].Else = place(w.marks[w.els[i]])
		}
	}
	return w.stmts, place(0)
}
