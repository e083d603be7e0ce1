package parse_test

import (
	"slices"
	"strconv"
	"strings"

	"twinstep/api"
	"twinstep/lex"
)

// told_test.go: syntaxes told as texts, and the chapter's language once more, as rules that are tried all at once.

var kindNames = map[api.NodeKind]string{
	api.NBlock: "Block", api.NLocal: "Local", api.NAssign: "Assign", api.NCallStat: "CallStat", api.NDo: "Do",
	api.NWhile: "While", api.NRepeat: "Repeat", api.NIf: "If", api.NFor: "For", api.NForIn: "ForIn",
	api.NLocalFunc: "LocalFunc", api.NReturn: "Return", api.NBreak: "Break", api.NGoto: "Goto", api.NLabel: "Label",
	api.NNil: "Nil", api.NTrue: "True", api.NFalse: "False", api.NInt: "Int", api.NStr: "Str", api.NDots: "Dots",
	api.NFunc: "Func", api.NName: "Name", api.NIndex: "Index", api.NCall: "Call", api.NMethod: "Method",
	api.NBin: "Bin", api.NAnd: "And", api.NOr: "Or", api.NUn: "Un", api.NTable: "Table", api.NItem: "Item",
	api.NNamed: "Named", api.NParen: "Paren",
}

// opMarks are the operators' marks, by their Ops.
var opMarks = strings.Fields("? + - * // % & | ~ << >> .. == ~= < <= > >= - not # ~")

// binaries are the operators of two operands; those of a row bind alike, and more than the rows ahead.
var binaries = [][]string{
	{"or"}, {"and"}, {"==", "~=", "<", "<=", ">", ">="}, {"|"}, {"~"}, {"&"}, {"<<", ">>"}, {".."}, {"+", "-"}, {"*", "//", "%"},
}

var unaries = []string{"-", "not", "#", "~"}

// say tells the node at place, with all that it has but its line and its kids' places.
func say(s api.Syntax, place int) string {
	n := s.Nodes[place]
	var kids []string
	for _, k := range n.Kids {
		kids = append(kids, say(s, k))
	}
	out := kindNames[n.Kind]
	switch n.Kind {
	case api.NName:
		out = n.Name
	case api.NInt:
		out = strconv.FormatInt(n.N, 10)
	case api.NStr:
		out = strconv.Quote(n.Name)
	case api.NNil, api.NTrue, api.NFalse, api.NDots:
		out = strings.ToLower(out)
	case api.NBin:
		return "(" + kids[0] + " " + opMarks[n.N] + " " + kids[1] + ")"
	case api.NAnd, api.NOr:
		return "(" + kids[0] + " " + strings.ToLower(out) + " " + kids[1] + ")"
	case api.NUn:
		return "(" + opMarks[n.N] + " " + kids[0] + ")"
	case api.NParen:
		return "<" + kids[0] + ">"
	default:
		if n.Name != "" {
			out += " " + n.Name
		}
		if n.N != 0 {
			out += " " + strconv.FormatInt(n.N, 10)
		}
		if len(n.Names) > 0 {
			out += " " + strings.Join(n.Names, ",")
		}
	}
	if len(kids) > 0 {
		out += "[" + strings.Join(kids, " ") + "]"
	}
	return out
}

// sayAll tells a whole syntax by its nodes, in their order.
func sayAll(s api.Syntax) string {
	var out []string
	for i, n := range s.Nodes {
		row := []string{strconv.Itoa(i), kindNames[n.Kind], strconv.FormatInt(n.N, 10), strconv.Quote(n.Name), strings.Join(n.Names, ",")}
		for _, k := range n.Kids {
			row = append(row, strconv.Itoa(k))
		}
		out = append(out, strings.Join(row, " ")+" @"+strconv.Itoa(n.Line))
	}
	return strings.Join(out, "\n") + "\nroot " + strconv.Itoa(s.Root)
}

// The chapter's language as rules: a line for each rule, its ways parted by /, parts of a way by blanks; what is no rule is a token; 0 is nothing. A target is an expression of its own.
const language = `
text    block END
block   stats / stats return opt-exprs / stats return opt-exprs ;
stats   0 / stats stat
stat    ; / while expr do block end / do block end / repeat block until expr
stat    if expr then block elseifs end / if expr then block elseifs else block end
stat    for NAME = expr , expr do block end / for NAME = expr , expr , expr do block end
stat    for names in exprs do block end
stat    function path body / function path : NAME body / local function NAME body
stat    local names / local names = exprs / :: NAME :: / break / goto NAME
stat    targets = exprs / call
elseifs 0 / elseifs elseif expr then block
path    NAME / path . NAME
targets target / targets , target
target  NAME / prefix [ expr ] / prefix . NAME
names   NAME / names , NAME
exprs   expr / exprs , expr
opt-exprs 0 / exprs
body    ( ) block end / ( names ) block end / ( names , ... ) block end / ( ... ) block end
expr    simple / unary expr / expr binary expr
unary   - / not / # / ~
binary  + / - / * / // / % / & / | / ~ / << / >> / .. / == / ~= / < / <= / > / >= / and / or
simple  nil / true / false / INT / STR / ... / table / function body / prefix
prefix  NAME / ( expr ) / target / call
call    prefix args / prefix : NAME args
args    ( opt-exprs ) / table / STR
table   { } / { fields } / { fields , } / { fields ; }
fields  field / fields , field / fields ; field
field   [ expr ] = expr / NAME = expr / expr
`

// rules are the language's rules: what each can be.
var rules = readRules()

func readRules() map[string][][]string {
	out := map[string][][]string{}
	for _, line := range strings.Split(strings.TrimSpace(language), "\n") {
		head, ways, _ := strings.Cut(line, " ")
		for _, way := range strings.Split(ways, " / ") {
			parts := strings.Fields(way)
			if len(parts) == 1 && parts[0] == "0" {
				parts = nil
			}
			out[head] = append(out[head], parts)
		}
	}
	return out
}

// item is a way of a rule, of which some parts were found, from a token on.
type item struct {
	head string
	way  int
	done int
	from int
}

func (i item) wants() string {
	if way := rules[i.head][i.way]; i.done < len(way) {
		return way[i.done]
	}
	return ""
}

// reader tries all rules at once: sets[k] has what may be behind k tokens.
type reader struct {
	sets  [][]item
	known []map[item]bool
}

func newReader() *reader {
	r := &reader{}
	r.open([]item{{head: "text"}})
	return r
}

func (r *reader) open(items []item) {
	at := len(r.sets)
	r.sets = append(r.sets, nil)
	r.known = append(r.known, map[item]bool{})
	put := func(i item) {
		if !r.known[at][i] {
			r.known[at][i] = true
			r.sets[at] = append(r.sets[at], i)
		}
	}
	for _, i := range items {
		put(i)
	}
	for k := 0; k < len(r.sets[at]); k++ {
		i := r.sets[at][k]
		switch wants := i.wants(); {
		case wants == "":
			for _, over := range slices.Clone(r.sets[i.from]) {
				if over.wants() == i.head {
					over.done++
					put(over)
				}
			}
		case rules[wants] != nil:
			for way := range rules[wants] {
				put(item{head: wants, way: way, from: at})
			}
			if nothing(wants) {
				i.done++
				put(i)
			}
		}
	}
}

// nothing tells whether a rule can be no token at all.
func nothing(rule string) bool {
	return rule == "block" || rule == "stats" || rule == "elseifs" || rule == "opt-exprs"
}

// next tells whether a text of the language goes on with this token.
func (r *reader) next(token string) bool {
	var items []item
	for _, i := range r.sets[len(r.sets)-1] {
		if i.wants() == token {
			i.done++
			items = append(items, i)
		}
	}
	// An ( goes on with what is ahead of it, rather than begin a statement.
	if slices.ContainsFunc(items, func(i item) bool { return token == "(" && i.head == "args" }) {
		items = slices.DeleteFunc(items, func(i item) bool { return i.head == "prefix" })
	}
	if len(items) > 0 {
		r.open(items)
	}
	return len(items) > 0
}

// back takes the last token away.
func (r *reader) back() {
	r.sets = r.sets[:len(r.sets)-1]
	r.known = r.known[:len(r.known)-1]
}

// terminal answers how the rules call a token.
func terminal(t api.Token) string {
	switch t.Kind {
	case api.TName:
		return "NAME"
	case api.TInt:
		return "INT"
	case api.TStr:
		return "STR"
	case api.TEnd:
		return "END"
	}
	return t.S
}

// toldSyntax answers the fault that the rules tell of a text of tokens that breaks no limit.
func toldSyntax(text string) api.Fault {
	tokens, fault := lex.Tokens(text)
	if fault != (api.Fault{}) {
		return fault
	}
	r := newReader()
	for _, t := range tokens {
		if !r.next(terminal(t)) {
			return api.Fault{Err: api.ErrSyntax, Line: t.Line}
		}
	}
	return api.Fault{}
}

// allTokens are all words and signs, and one token of each other kind.
func allTokens() []string {
	words := strings.Fields("and break do else elseif end false for function goto if in local nil not or repeat return then true until while")
	return append(append(words, lex.Signs()...), "b", "7", "'s'")
}

// mark answers how the rules call a token of allTokens.
func mark(token string) string {
	switch token {
	case "b":
		return "NAME"
	case "7":
		return "INT"
	case "'s'":
		return "STR"
	}
	return token
}
