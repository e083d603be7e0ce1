package parse

import "twinstep/api"

// bindsUn is how much an operator of one operand binds: more than any of two.
const bindsUn = 11

// operator is an operator of two operands.
type operator struct {
	mark  string
	kind  api.NodeKind
	op    api.Op
	binds int
}

var operators = [...]operator{
	{"or", api.NOr, 0, 1}, {"and", api.NAnd, 0, 2},
	{"==", api.NBin, api.Eq, 3}, {"~=", api.NBin, api.Ne, 3}, {"<", api.NBin, api.Lt, 3},
	{"<=", api.NBin, api.Le, 3}, {">", api.NBin, api.Gt, 3}, {">=", api.NBin, api.Ge, 3},
	{"|", api.NBin, api.Bor, 4}, {"~", api.NBin, api.Bxor, 5}, {"&", api.NBin, api.Band, 6},
	{"<<", api.NBin, api.Shl, 7}, {">>", api.NBin, api.Shr, 7}, {"..", api.NBin, api.Concat, 8},
	{"+", api.NBin, api.Add, 9}, {"-", api.NBin, api.Sub, 9},
	{"*", api.NBin, api.Mul, 10}, {"//", api.NBin, api.Div, 10}, {"%", api.NBin, api.Mod, 10},
}

// operatorOf answers the operator of two operands that mark is; one that binds nothing, if it is none.
func operatorOf(mark string) operator {
	for _, o := range operators {
		if o.mark == mark {
			return o
		}
	}
	return operator{}
}

// unaryOf answers the operator of one operand that mark is, or 0.
func unaryOf(mark string) api.Op {
	switch mark {
	case "-":
		return api.Neg
	case "not":
		return api.Not
	case "#":
		return api.Len
	case "~":
		return api.Bnot
	}
	return 0
}

// exprs reads a list of expressions, one at least.
func (p *parser) exprs(level int) []int {
	var kids []int
	for more := true; more; more = p.accept(",") {
		p.startExpr(level)
		p.room(len(kids))
		kids = append(kids, p.expr(level, 0))
	}
	return kids
}

// startExpr fails if no expression of this level begins with the token that is looked at.
func (p *parser) startExpr(level int) {
	p.begin(level)
	switch p.token().Kind {
	case api.TName, api.TInt, api.TStr:
		return
	}
	switch mark := p.mark(); mark {
	case "nil", "true", "false", "...", "{", "function", "(":
	default:
		if unaryOf(mark) == 0 {
			p.fail(api.ErrSyntax)
		}
	}
}

// expr reads an expression, up to the first operator that binds no more than this.
func (p *parser) expr(level, binds int) int {
	p.startExpr(level)
	left := p.operand(level)
	for o := operatorOf(p.mark()); o.binds > binds; o = operatorOf(p.mark()) {
		p.next()
		behind := o.binds
		if o.op == api.Concat {
			// The next one of its kind is a part of the second operand.
			behind--
		}
		right := p.expr(level+1, behind)
		left = p.add(api.Node{Kind: o.kind, N: int64(o.op), Kids: []int{left, right}, Line: p.nodes[left].Line})
	}
	return left
}

// operand reads what startExpr lets begin, without operators of two operands.
func (p *parser) operand(level int) int {
	t := p.token()
	mark := p.mark()
	if op := unaryOf(mark); op != 0 {
		p.next()
		kid := p.expr(level+1, bindsUn)
		return p.add(api.Node{Kind: api.NUn, N: int64(op), Kids: []int{kid}, Line: t.Line})
	}
	switch {
	case t.Kind == api.TName, mark == "(":
		return p.prefix(level)
	case mark == "{":
		return p.table(level)
	case mark == "function":
		p.next()
		return p.body(nil, t.Line, level)
	}
	p.next()
	return p.add(literal(t))
}

// literal answers the node of a token that is an expression by itself.
func literal(t api.Token) api.Node {
	n := api.Node{Line: t.Line}
	switch t.Kind {
	case api.TInt:
		n.Kind, n.N = api.NInt, t.N
		return n
	case api.TStr:
		n.Kind, n.Name = api.NStr, t.S
		return n
	}
	switch t.S {
	case "nil":
		n.Kind = api.NNil
	case "true":
		n.Kind = api.NTrue
	case "false":
		n.Kind = api.NFalse
	case "...":
		n.Kind = api.NDots
	}
	return n
}

// variable reads a name that is a variable.
func (p *parser) variable() int {
	line := p.line()
	name := p.nextName()
	return p.add(api.Node{Kind: api.NName, Name: name, Line: line})
}

// prefix reads a prefix with all that goes on with it.
func (p *parser) prefix(level int) int {
	left := p.firstPrefix(level)
	for {
		switch p.mark() {
		case "[":
			p.next()
			key := p.expr(level+1, 0)
			p.expect("]")
			left = p.index(left, key)
		case ".":
			p.next()
			left = p.field(left, level)
		case ":":
			p.next()
			name := p.nextName()
			left = p.call(api.Node{Kind: api.NMethod, Name: name}, left, level)
		default:
			if !p.startsArgs() {
				return left
			}
			left = p.call(api.Node{Kind: api.NCall}, left, level)
		}
	}
}

// firstPrefix reads a name, or an expression in ( ).
func (p *parser) firstPrefix(level int) int {
	line := p.line()
	if !p.accept("(") {
		return p.variable()
	}
	kid := p.expr(level+1, 0)
	p.expect(")")
	return p.add(api.Node{Kind: api.NParen, Kids: []int{kid}, Line: line})
}

// index lists what the node at left has under the key at key.
func (p *parser) index(left, key int) int {
	return p.add(api.Node{Kind: api.NIndex, Kids: []int{left, key}, Line: p.nodes[left].Line})
}

// field reads the key behind a dot; the index, with the node at left, is of this level.
func (p *parser) field(left, level int) int {
	return p.index(left, p.key(level+1))
}

// key reads a name that is a key of this level, which may be of any length.
func (p *parser) key(level int) int {
	p.begin(level)
	line := p.line()
	name := p.peekName()
	p.next()
	return p.add(api.Node{Kind: api.NStr, Name: name, Line: line})
}

// call reads the arguments of n, which calls the node at left.
func (p *parser) call(n api.Node, left, level int) int {
	n.Line = p.nodes[left].Line
	n.Kids = append([]int{left}, p.args(level+1)...)
	return p.add(n)
}

// startsArgs tells whether a call's arguments begin with the token that is looked at.
func (p *parser) startsArgs() bool {
	return p.mark() == "(" || p.mark() == "{" || p.token().Kind == api.TStr
}

// args reads a call's arguments of this level.
func (p *parser) args(level int) []int {
	if !p.startsArgs() {
		p.fail(api.ErrSyntax)
	}
	if !p.accept("(") {
		p.begin(level)
		return []int{p.operand(level)}
	}
	var kids []int
	if p.mark() != ")" {
		kids = p.exprs(level)
	}
	p.expect(")")
	return kids
}

func (p *parser) table(level int) int {
	line := p.line()
	p.expect("{")
	var kids []int
	for more := true; more && p.mark() != "}"; more = p.accept(",") || p.accept(";") {
		kids = append(kids, p.item(level+1))
	}
	p.expect("}")
	return p.add(api.Node{Kind: api.NTable, Kids: kids, Line: line})
}

// item reads what a table has at a place or under a key, which are of this level.
func (p *parser) item(level int) int {
	line := p.line()
	var kids []int
	switch {
	case p.accept("["):
		kids = append(kids, p.expr(level, 0))
		p.expect("]")
	case p.token().Kind == api.TName && p.nextIs("="):
		kids = append(kids, p.key(level))
	default:
		kids = append(kids, p.expr(level, 0))
		return p.add(api.Node{Kind: api.NItem, Kids: kids, Line: line})
	}
	p.expect("=")
	kids = append(kids, p.expr(level, 0))
	return p.add(api.Node{Kind: api.NNamed, Kids: kids, Line: line})
}

// nextIs tells whether this sign is behind the token that is looked at, which is not the end.
func (p *parser) nextIs(sign string) bool {
	t := p.tokens[p.at+1]
	return t.Kind == api.TSign && t.S == sign
}

// body reads a function's parameters, behind those of names, and its block; the function is of this line and level.
func (p *parser) body(names []string, line, level int) int {
	names, more := p.params(names)
	block := p.block(level + 1)
	p.expect("end")
	return p.add(api.Node{Kind: api.NFunc, N: more, Names: names, Kids: []int{block}, Line: line})
}

// params reads parameters, and answers with those of names whether there are more: 1 or 0.
func (p *parser) params(names []string) ([]string, int64) {
	var more int64
	p.expect("(")
	for on := p.mark() != ")"; on; on = more == 0 && p.accept(",") {
		if p.accept("...") {
			more = 1
		} else {
			names = p.oneMore(names)
		}
	}
	p.expect(")")
	return names, more
}
