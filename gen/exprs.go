package gen

import "twinstep/api"

// all is wanted of what comes to as many values as there are: they are the open list.
const all = -1

// value puts what an expression comes to, one value, into a register more, and answers that.
func (m *maker) value(place int) int {
	e := m.Exprs[place]
	at := m.top
	one := func(op api.InsOp) { m.put(api.Ins{Op: op, A: m.take(1), N: e.N}) }
	switch e.Kind {
	case api.ENil:
		one(api.INil)
	case api.ETrue:
		one(api.ITrue)
	case api.EFalse:
		one(api.IFalse)
	case api.EInt:
		one(api.IInt)
	case api.EStr:
		one(api.IStr)
	case api.EFunc:
		one(api.IFunc)
	case api.EUp:
		one(api.IUp)
	case api.EGlobal:
		one(api.IGlobal)
	case api.ESlot:
		m.read(int(e.N))
	case api.EDots, api.ECall, api.EMethod:
		m.values(place, 1)
	case api.EAnd, api.EOr:
		m.choice(e)
	case api.ETable:
		one(api.ITable)
		m.parts(at, e.Kids)
	case api.EParen:
		m.value(e.Kids[0])
	default:
		m.operation(e)
	}
	return at
}

// read puts the variables of slots into registers, and answers the first one.
func (m *maker) read(slots ...int) int {
	first := m.top
	for _, slot := range slots {
		m.put(api.Ins{Op: api.IGet, A: m.take(1), B: slot})
	}
	return first
}

// operation puts what an EIndex, EBin or EUn comes to into a register more.
func (m *maker) operation(e api.Expr) {
	at := m.value(e.Kids[0])
	switch e.Kind {
	case api.EIndex:
		m.put(api.Ins{Op: api.IIndex, A: at, B: at, C: m.value(e.Kids[1])})
	case api.EBin:
		m.put(api.Ins{Op: api.IBin, A: at, B: at, C: m.value(e.Kids[1]), N: e.N})
	case api.EUn:
		m.put(api.Ins{Op: api.IUn, A: at, B: at, N: e.N})
	}
	m.top = at + 1
}

// choice puts what an EAnd or EOr comes to into a register more: the second operand comes in the place of the first one, or is gone over.
func (m *maker) choice(e api.Expr) {
	at := m.value(e.Kids[0])
	second, end := m.test(api.ITest, at)
	if e.Kind == api.EOr {
		second, end = end, second
	}
	second()
	m.top = at
	m.value(e.Kids[1])
	end()
}

// parts puts what fills the table in a register.
func (m *maker) parts(table int, places []int) {
	items := int64(0)
	for i, place := range places {
		part := m.Exprs[place]
		first := part.Kids[0]
		if part.Kind == api.EItem {
			items++
		}
		switch {
		case part.Kind == api.ENamed:
			key := m.value(first)
			m.put(api.Ins{Op: api.IPut, A: table, B: key, C: m.value(part.Kids[1])})
		case i == len(places)-1 && m.many(first):
			m.values(first, all)
			m.put(api.Ins{Op: api.IPutAll, A: table, N: items})
		default:
			m.put(api.Ins{Op: api.IPutAt, A: table, B: m.value(first), N: items})
		}
		m.top = table + 1
	}
}

// many tells whether an expression comes to as many values as there are, where it stands last.
func (m *maker) many(place int) bool {
	k := m.Exprs[place].Kind
	return k == api.EDots || k == api.ECall || k == api.EMethod
}

// values puts as many values as wanted of what an expression of that sort comes to into registers more.
func (m *maker) values(place, want int) {
	e := m.Exprs[place]
	at := m.top
	switch {
	case e.Kind != api.EDots:
		m.call(e, want)
	case want == all:
		m.put(api.Ins{Op: api.IDots, C: all})
	default:
		m.put(api.Ins{Op: api.IDots, A: at, C: want})
	}
	m.top = at
	m.take(max(want, 0))
}

// call puts an ECall or EMethod, whose results come in the place of the function.
func (m *maker) call(e api.Expr, want int) {
	at := m.value(e.Kids[0])
	own := 0
	if e.Kind == api.EMethod {
		m.put(api.Ins{Op: api.ISelf, A: at, N: e.N})
		m.take(1)
		own = 1
	}
	count, open := m.openList(e.Kids[1:])
	m.put(api.Ins{Op: api.ICall, A: at, B: own + count, C: want, N: open})
}

// openList puts a list's values into registers more, and answers how many; with 1, if those of its last part are the open list.
func (m *maker) openList(places []int) (count int, open int64) {
	for i, place := range places {
		if i == len(places)-1 && m.many(place) {
			m.values(place, all)
			return i, 1
		}
		m.value(place)
	}
	return len(places), 0
}

// list puts a list's values, as many as wanted, into registers more, and answers the first one. All of its parts are evaluated.
func (m *maker) list(places []int, want int) int {
	first := m.top
	for i, place := range places {
		if i == len(places)-1 && m.many(place) {
			m.values(place, max(want-i, 0))
		} else {
			m.value(place)
		}
	}
	for m.top < first+want {
		m.put(api.Ins{Op: api.INil, A: m.take(1)})
	}
	return first
}
