package gen

import "twinstep/api"

// part is what an instruction may have as its A, B, C or N.
type part uint8

const (
	nothing part = iota // 0
	free                // a free register
	two                 // and one more behind it
	three               // and two more
	slot                // a slot
	onAt                // a place behind the instruction in its list
	goal                // a statement, or -1
	any64               // any number
	str                 // a place in Strs
	up                  // a place in Ups
	inner               // a function that this one is around
	binary              // an operator of two operands
	unary               // one of one
	fromOne             // a number from 1 on
)

// row is what instructions of an Op may have.
type row struct{ a, b, c, n part }

// rows are the instructions' rows, by their Ops. Of those that are not here how many registers there are hangs on their own numbers.
var rows = [...]row{
	api.INil:       {a: free},
	api.ITrue:      {a: free},
	api.IFalse:     {a: free},
	api.IInt:       {a: free, n: any64},
	api.IStr:       {a: free, n: str},
	api.IFunc:      {a: free, n: inner},
	api.IGet:       {a: free, b: slot},
	api.ISet:       {a: slot, b: free},
	api.IFresh:     {a: slot, b: free},
	api.IUp:        {a: free, n: up},
	api.ISetUp:     {a: free, n: up},
	api.IGlobal:    {a: free, n: str},
	api.ISetGlobal: {a: free, n: str},
	api.IIndex:     {a: free, b: free, c: free},
	api.ISetIndex:  {a: free, b: free, c: free},
	api.ISelf:      {a: two, n: str},
	api.IBin:       {a: free, b: free, c: free, n: binary},
	api.IUn:        {a: free, b: free, n: unary},
	api.ITable:     {a: free},
	api.IPut:       {a: free, b: free, c: free},
	api.IPutAt:     {a: free, b: free, n: fromOne},
	api.IPutAll:    {a: free, n: fromOne},
	api.ITest:      {a: free, b: onAt, c: onAt},
	api.INilTest:   {a: free, b: onAt, c: onAt},
	api.IIntTest:   {a: free, b: onAt, c: onAt},
	api.IForPrep:   {a: three},
	api.IForStep:   {a: three, b: onAt, c: onAt},
	api.IGo:        {a: goal},
}

// judge asks a code of a function.
type judge struct {
	api.Proto
	code   api.Code
	strs   int
	inners []bool // by the functions' numbers
}

// Right tells whether c is a right code of a function of p.
func Right(p api.Program, proto int, c api.Code) bool {
	if !has(p, proto) {
		return false
	}
	j := judge{Proto: p.Protos[proto], code: c, strs: len(p.Strs), inners: make([]bool, len(p.Protos))}
	for _, e := range j.Exprs {
		if e.Kind == api.EFunc {
			j.inners[e.N] = true
		}
	}
	return j.fits() && j.laid() && j.listsFit()
}

// fits tells whether the code has as many registers and instructions as it may have.
func (j *judge) fits() bool {
	most := 20 + 30*(len(j.Exprs)+len(j.Stmts))
	for _, s := range j.Stmts {
		most += 10 * len(s.Slots)
	}
	return between(j.code.Regs, j.Slots, j.Slots+2*api.MaxNodes) && len(j.code.Ins) <= most
}

func between(n, least, most int) bool { return n >= least && n <= most }

// laid tells whether there is a list for each statement, one behind the other, none of them empty, and nothing beside them.
func (j *judge) laid() bool {
	if len(j.code.Start) != len(j.Stmts) {
		return false
	}
	if len(j.Stmts) == 0 {
		return len(j.code.Ins) == 0
	}
	for i, begin := range j.code.Start {
		if begin >= j.end(i) {
			return false
		}
	}
	return j.code.Start[0] == 0
}

// end answers where a statement's list ends.
func (j *judge) end(stmt int) int {
	if stmt+1 < len(j.code.Start) {
		return j.code.Start[stmt+1]
	}
	return len(j.code.Ins)
}

// listsFit tells whether each list is right.
func (j *judge) listsFit() bool {
	for i, begin := range j.code.Start {
		end := j.end(i)
		for at := begin; at < end; at++ {
			if !j.insFits(at, end) {
				return false
			}
		}
		if op := j.code.Ins[end-1].Op; op != api.IGo && op != api.IReturn {
			return false
		}
	}
	return true
}

// insFits tells whether the instruction at a place of a list that ends at end may stand there. As no list ends with a maker of an open list, the one ahead of it may be asked, whatever list that is in.
func (j *judge) insFits(at, end int) bool {
	in := j.code.Ins[at]
	made := at > 0 && makes(j.code.Ins[at-1])
	if takes(in) != made {
		return false
	}
	switch in.Op {
	case api.IDots:
		return in.B == 0 && in.N == 0 && j.dotsFit(in)
	case api.ICall:
		return between(in.B, 0, 1+api.MaxVals) && j.areFree(in.A, 1+in.B) && j.wantFits(in) && isFlag(in.N)
	case api.IReturn:
		return in.C == 0 && j.returnFits(in) && isFlag(in.N)
	}
	return j.rowFits(in, at, end)
}

// makes tells whether in makes an open list.
func makes(in api.Ins) bool {
	return (in.Op == api.IDots || in.Op == api.ICall) && in.C == all
}

// takes tells whether in takes an open list.
func takes(in api.Ins) bool {
	return in.Op == api.IPutAll || (in.Op == api.ICall || in.Op == api.IReturn) && in.N == 1
}

func isFlag(n int64) bool { return n == 0 || n == 1 }

// areFree tells whether there are so many free registers from the first one on.
func (j *judge) areFree(first, count int) bool {
	return first >= j.Slots && first <= j.code.Regs && count <= j.code.Regs-first
}

func (j *judge) dotsFit(in api.Ins) bool {
	if in.C == all {
		return in.A == 0
	}
	return j.wantFits(in)
}

// wantFits tells whether in wants values that may be.
func (j *judge) wantFits(in api.Ins) bool {
	return in.C == all || between(in.C, 0, api.MaxVals) && j.areFree(in.A, in.C)
}

func (j *judge) returnFits(in api.Ins) bool {
	if in.B == 0 {
		return in.A == 0
	}
	return between(in.B, 1, api.MaxVals) && j.areFree(in.A, in.B)
}

// rowFits tells whether in has what its row tells.
func (j *judge) rowFits(in api.Ins, at, end int) bool {
	if in.Op < api.INil || int(in.Op) >= len(rows) {
		return false
	}
	may := rows[in.Op]
	fits := func(p part, n int) bool {
		if p == onAt {
			return n > at && n < end && !takes(j.code.Ins[n])
		}
		return j.partFits(p, n)
	}
	return fits(may.a, in.A) && fits(may.b, in.B) && fits(may.c, in.C) && j.numberFits(may.n, in.N)
}

// partFits tells whether n may be an A, B or C of that sort.
func (j *judge) partFits(p part, n int) bool {
	switch p {
	case free:
		return j.areFree(n, 1)
	case two:
		return j.areFree(n, 2)
	case three:
		return j.areFree(n, 3)
	case slot:
		return between(n, 0, j.Slots-1)
	case goal:
		return between(n, -1, len(j.Stmts)-1)
	}
	return n == 0
}

// numberFits tells whether n may be an N of that sort.
func (j *judge) numberFits(p part, n int64) bool {
	below := func(count int) bool { return n >= 0 && n < int64(count) }
	operator := func(least, most api.Op) bool { return n >= int64(least) && n <= int64(most) }
	switch p {
	case any64:
		return true
	case str:
		return below(j.strs)
	case up:
		return below(len(j.Ups))
	case inner:
		return below(len(j.inners)) && j.inners[n]
	case binary:
		return operator(api.Add, api.Ge)
	case unary:
		return operator(api.Neg, api.Bnot)
	case fromOne:
		return n >= 1
	}
	return n == 0
}
