package parse

import "twinstep/api"

// stat reads a statement that is no return; its expressions and blocks are of this level.
func (p *parser) stat(level int) int {
	switch p.mark() {
	case "while":
		return p.whileStat(level)
	case "do":
		return p.doStat(level)
	case "repeat":
		return p.repeatStat(level)
	case "if":
		return p.ifStat(level)
	case "for":
		return p.forStat(level)
	case "function":
		return p.functionStat(level)
	case "local":
		return p.localStat(level)
	case "::", "goto", "break":
		return p.jumpStat()
	}
	return p.prefixStat(level)
}

// lastStat reads a return and the ; behind it; it must be the last statement.
func (p *parser) lastStat(level int) int {
	line := p.line()
	p.next()
	var kids []int
	if p.mark() != ";" && !p.endsBlock() {
		kids = p.exprs(level)
	}
	// The ; is behind the statement, no part of it.
	stat := p.add(api.Node{Kind: api.NReturn, Kids: kids, Line: line})
	p.accept(";")
	if !p.endsBlock() {
		p.fail(api.ErrSyntax)
	}
	return stat
}

func (p *parser) whileStat(level int) int {
	line := p.line()
	p.next()
	condition := p.expr(level, 0)
	block := p.doBlock(level)
	return p.add(api.Node{Kind: api.NWhile, Kids: []int{condition, block}, Line: line})
}

func (p *parser) doStat(level int) int {
	line := p.line()
	block := p.doBlock(level)
	return p.add(api.Node{Kind: api.NDo, Kids: []int{block}, Line: line})
}

// doBlock reads a block between do and end.
func (p *parser) doBlock(level int) int {
	p.expect("do")
	block := p.block(level)
	p.expect("end")
	return block
}

func (p *parser) repeatStat(level int) int {
	line := p.line()
	p.next()
	block := p.block(level)
	p.expect("until")
	condition := p.expr(level, 0)
	return p.add(api.Node{Kind: api.NRepeat, Kids: []int{block, condition}, Line: line})
}

func (p *parser) ifStat(level int) int {
	line := p.line()
	kids := p.pair(level)
	for p.mark() == "elseif" {
		kids = append(kids, p.pair(level)...)
	}
	if p.accept("else") {
		kids = append(kids, p.block(level))
	}
	p.expect("end")
	return p.add(api.Node{Kind: api.NIf, Kids: kids, Line: line})
}

// pair reads if or elseif, a condition, and its block.
func (p *parser) pair(level int) []int {
	p.next()
	condition := p.expr(level, 0)
	p.expect("then")
	return []int{condition, p.block(level)}
}

func (p *parser) forStat(level int) int {
	line := p.line()
	p.next()
	n := api.Node{Kind: api.NFor, Names: p.names(), Line: line}
	if len(n.Names) == 1 && p.accept("=") {
		n.Kids = p.bounds(level)
	} else {
		n.Kind = api.NForIn
		p.expect("in")
		n.Kids = p.exprs(level)
	}
	n.Kids = append(n.Kids, p.doBlock(level))
	return p.add(n)
}

// bounds reads from where, up to where, and perhaps by which step a loop counts.
func (p *parser) bounds(level int) []int {
	from := p.expr(level, 0)
	p.expect(",")
	kids := []int{from, p.expr(level, 0)}
	if p.accept(",") {
		kids = append(kids, p.expr(level, 0))
	}
	return kids
}

func (p *parser) functionStat(level int) int {
	p.begin(level)
	line := p.line()
	p.next()
	target := p.variable()
	for p.accept(".") {
		target = p.field(target, level)
	}
	var names []string
	if p.accept(":") {
		target = p.field(target, level)
		names = []string{"self"}
	}
	value := p.body(names, line, level)
	return p.add(api.Node{Kind: api.NAssign, N: 1, Kids: []int{target, value}, Line: line})
}

func (p *parser) localStat(level int) int {
	line := p.line()
	p.next()
	if p.mark() == "function" {
		return p.localFunction(line, level)
	}
	n := api.Node{Kind: api.NLocal, Names: p.names(), Line: line}
	if p.accept("=") {
		n.Kids = p.exprs(level)
	}
	return p.add(n)
}

// localFunction reads what is behind the local of that line.
func (p *parser) localFunction(line, level int) int {
	p.begin(level)
	from := p.line()
	p.next()
	name := p.nextName()
	value := p.body(nil, from, level)
	return p.add(api.Node{Kind: api.NLocalFunc, Names: []string{name}, Kids: []int{value}, Line: line})
}

// jumpStat reads a label, a goto, or a break.
func (p *parser) jumpStat() int {
	n := api.Node{Kind: api.NBreak, Line: p.line()}
	mark := p.mark()
	p.next()
	switch mark {
	case "goto":
		n.Kind, n.Name = api.NGoto, p.nextName()
	case "::":
		n.Kind, n.Name = api.NLabel, p.nextName()
		p.expect("::")
	}
	return p.add(n)
}

// prefixStat reads a call, or targets and what they get.
func (p *parser) prefixStat(level int) int {
	p.startPrefix()
	p.begin(level)
	line := p.line()
	first := p.prefix(level)
	if p.isCall(first) {
		return p.add(api.Node{Kind: api.NCallStat, Kids: []int{first}, Line: line})
	}
	kids := []int{p.target(first)}
	for p.accept(",") {
		p.startPrefix()
		p.room(len(kids))
		kids = append(kids, p.target(p.prefix(level)))
	}
	n := api.Node{Kind: api.NAssign, N: int64(len(kids)), Line: line}
	p.expect("=")
	n.Kids = append(kids, p.exprs(level)...)
	return p.add(n)
}

// startPrefix fails if no prefix begins with the token that is looked at.
func (p *parser) startPrefix() {
	if p.token().Kind != api.TName && p.mark() != "(" {
		p.fail(api.ErrSyntax)
	}
}

// isCall tells whether the node at place is a call.
func (p *parser) isCall(place int) bool {
	k := p.nodes[place].Kind
	return k == api.NCall || k == api.NMethod
}

// target answers the prefix at place, which must be a target.
func (p *parser) target(place int) int {
	if p.isCall(place) || p.nodes[place].Kind == api.NParen {
		p.fail(api.ErrSyntax)
	}
	return place
}
