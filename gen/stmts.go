package gen

import "twinstep/api"

// stmt puts the list of a statement.
func (m *maker) stmt(s api.Stmt) {
	switch s.Kind {
	case api.SLocal:
		m.fresh(s.Slots, m.list(s.Exprs, len(s.Slots)))
	case api.SAssign:
		m.assign(s)
	case api.SCall:
		m.values(s.Exprs[0], 0)
	case api.STest:
		yes, no := m.test(api.ITest, m.value(s.Exprs[0]))
		no()
		m.onward(s.Else)
		yes()
	case api.SForPrep:
		m.forPrep(s)
	case api.SForLoop:
		m.forLoop(s)
	case api.SInPrep:
		own := hidden(s)
		m.fresh(own, m.list(s.Exprs, len(own)))
	case api.SInLoop:
		m.inLoop(s)
	case api.SFunc:
		// The function may have the variable, so that it is made ahead of it.
		m.fresh(s.Slots, m.list(nil, 1))
		m.set(s.Slots[0], m.value(s.Exprs[0]))
	case api.SReturn:
		m.leave(s)
		return
	}
	m.onward(s.Next)
}

// hidden answers a loop's three hidden slots.
func hidden(s api.Stmt) []int {
	first := s.Slots[0]
	return []int{first, first + 1, first + 2}
}

// fresh makes slots' variables of registers, from the first one on.
func (m *maker) fresh(slots []int, first int) {
	for i, slot := range slots {
		m.put(api.Ins{Op: api.IFresh, A: slot, B: first + i})
	}
}

func (m *maker) set(slot, at int) { m.put(api.Ins{Op: api.ISet, A: slot, B: at}) }

// assign puts what the targets need, then the list, then what gives each target its value.
func (m *maker) assign(s api.Stmt) {
	var gives []func(at int)
	for _, place := range s.Targets {
		gives = append(gives, m.target(m.Exprs[place]))
	}
	first := m.list(s.Exprs, len(s.Targets))
	for i, give := range gives {
		give(first + i)
	}
}

// target puts what a target needs ahead of the list, and answers what gives it the value that is in a register.
func (m *maker) target(e api.Expr) func(at int) {
	switch e.Kind {
	case api.EUp:
		return func(at int) { m.put(api.Ins{Op: api.ISetUp, A: at, N: e.N}) }
	case api.EGlobal:
		return func(at int) { m.put(api.Ins{Op: api.ISetGlobal, A: at, N: e.N}) }
	case api.EIndex:
		table := m.value(e.Kids[0])
		key := m.value(e.Kids[1])
		return func(at int) { m.put(api.Ins{Op: api.ISetIndex, A: table, B: key, C: at}) }
	}
	return func(at int) { m.set(int(e.N), at) }
}

func (m *maker) forPrep(s api.Stmt) {
	from := m.list(s.Exprs, len(s.Exprs))
	if len(s.Exprs) == 2 {
		m.put(api.Ins{Op: api.IInt, A: m.take(1), N: 1})
	}
	m.put(api.Ins{Op: api.IForPrep, A: from})
	m.fresh(hidden(s), from)
}

func (m *maker) forLoop(s api.Stmt) {
	own := hidden(s)
	index := m.read(own...)
	is, isNot := m.test(api.IIntTest, index)
	isNot()
	m.onward(s.Else)
	is()
	m.fresh(s.Slots[1:], index)
	last, another := m.test(api.IForStep, index)
	last()
	m.set(own[0], index)
	m.onward(s.Next)
	another()
	m.set(own[0], index)
	m.set(own[1], index+1)
}

func (m *maker) inLoop(s api.Stmt) {
	own, vars := hidden(s), s.Slots[1:]
	first := m.read(own...)
	m.put(api.Ins{Op: api.ICall, A: first, B: 2, C: len(vars)})
	m.top = first
	m.take(len(vars))
	end, another := m.test(api.INilTest, first)
	end()
	m.onward(s.Else)
	another()
	m.set(own[2], first)
	m.fresh(vars, first)
}

// leave puts an SReturn.
func (m *maker) leave(s api.Stmt) {
	first := m.top
	count, open := m.openList(s.Exprs)
	if count == 0 {
		first = 0
	}
	m.put(api.Ins{Op: api.IReturn, A: first, B: count, N: open})
}
