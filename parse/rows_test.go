package parse_test

import (
	"strconv"
	"strings"
	"testing"

	"twinstep/api"
	"twinstep/parse"
)

// rows_test.go: beginnings of texts, token by token, with what has ended and what begins at each token, and what that comes to near the limits.

// row is tokens; ended: how many nodes have ended ahead of each one; level: how much higher than the block's the level is of what begins, or must begin, there (0: nothing does). The last token may not stand there, or is the text's end: $ if the text is one of the language, END if not.
type row struct {
	tokens, ended, level string
}

var rows = []row{
	// Assignments and calls.
	{"$", "1", "0"},
	{"x = 1 $", "0 1 1 4", "1 0 1 0"},
	{"x )", "0 1", "1 0"},
	{"x END", "0 1", "1 0"},
	{"x = )", "0 1 1", "1 0 1"},
	{"x = END", "0 1 1", "1 0 1"},
	{"x = 1 )", "0 1 1 3", "1 0 1 0"},
	{"x = 1 end", "0 1 1 4", "1 0 1 0"},
	{"x = 1 else", "0 1 1 4", "1 0 1 0"},
	{"x = 1 elseif", "0 1 1 4", "1 0 1 0"},
	{"x = 1 until", "0 1 1 4", "1 0 1 0"},
	{"x = 1 then", "0 1 1 3", "1 0 1 0"},
	{"x , )", "0 1 1", "1 0 1"},
	{"x , y )", "0 1 1 2", "1 0 1 0"},
	{"x , f ( ) =", "0 1 1 2 2 3", "1 0 1 0 0 0"},
	{"x , ( y ) =", "0 1 1 1 2 3", "1 0 1 2 0 0"},
	{"x , y = 1 , 2 )", "0 1 1 2 2 3 3 5", "1 0 1 0 1 0 1 0"},
	{"f ( ) $", "0 1 1 4", "1 0 0 0"},
	{"f ( ) =", "0 1 1 3", "1 0 0 0"},
	{"f ( ) ,", "0 1 1 3", "1 0 0 0"},
	{"f ( ) )", "0 1 1 3", "1 0 0 0"},
	{"f ( ) end", "0 1 1 4", "1 0 0 0"},
	{"f ( ]", "0 1 1", "1 0 2"},
	{"f ( 1 ]", "0 1 1 2", "1 0 2 0"},
	{"f ( 1 END", "0 1 1 2", "1 0 2 0"},
	{"f ( 1 , )", "0 1 1 2 2", "1 0 2 0 2"},
	{"f { } $", "0 1 1 5", "1 2 0 0"},
	{"f { } =", "0 1 1 4", "1 2 0 0"},
	{"f { )", "0 1 1", "1 2 3"},
	{"f 's' $", "0 1 5", "1 2 0"},
	{"f 's' =", "0 1 4", "1 2 0"},
	{"a : )", "0 1 1", "1 0 0"},
	{"a : b )", "0 1 1 1", "1 0 0 0"},
	{"a : b ( ) =", "0 1 1 1 1 3", "1 0 0 0 0 0"},
	{"a : b ( ]", "0 1 1 1 1", "1 0 0 0 2"},
	{"a : b 's' )", "0 1 1 1 4", "1 0 0 2 0"},
	{"a : b { } )", "0 1 1 1 1 4", "1 0 0 2 0 0"},
	{"a . )", "0 1 1", "1 0 2"},
	{"a . b )", "0 1 1 3", "1 0 2 0"},
	{"a . b . )", "0 1 1 3 3", "1 0 2 0 2"},
	{"a [ )", "0 1 1", "1 0 2"},
	{"a [ 1 )", "0 1 1 2", "1 0 2 0"},
	{"a [ 1 ] )", "0 1 1 2 3", "1 0 2 0 0"},
	{"( )", "0 0", "1 2"},
	{"( a ]", "0 0 1", "1 2 0"},
	{"( a ) )", "0 0 1 2", "1 2 0 0"},
	{"( a ) =", "0 0 1 2", "1 2 0 0"},
	{"( a ) ,", "0 0 1 2", "1 2 0 0"},
	{"( a . b ) ( ) $", "0 0 1 1 3 4 4 7", "1 2 0 3 0 0 0 0"},
	{"x = 'a' 'b'", "0 1 1 3", "1 0 1 0"},
	{"x = f 'b' $", "0 1 1 2 6", "1 0 1 2 0"},
	// Operators.
	{"x = 1 + )", "0 1 1 2 2", "1 0 1 0 2"},
	{"x = 1 + 2 )", "0 1 1 2 2 5", "1 0 1 0 2 0"},
	{"x = 1 + 2 * 3 )", "0 1 1 2 2 3 3 7", "1 0 1 0 2 0 3 0"},
	{"x = 1 * 2 + 3 )", "0 1 1 2 2 4 4 7", "1 0 1 0 2 0 2 0"},
	{"x = 1 - 2 - 3 )", "0 1 1 2 2 4 4 7", "1 0 1 0 2 0 2 0"},
	{"x = 1 .. 2 .. 3 )", "0 1 1 2 2 3 3 7", "1 0 1 0 2 0 3 0"},
	{"x = a or b and c )", "0 1 1 2 2 3 3 7", "1 0 1 0 2 0 3 0"},
	{"x = a and b or c )", "0 1 1 2 2 4 4 7", "1 0 1 0 2 0 2 0"},
	{"x = not )", "0 1 1 1", "1 0 1 2"},
	{"x = - - 1 )", "0 1 1 1 1 5", "1 0 1 2 3 0"},
	{"x = - 1 + )", "0 1 1 1 3 3", "1 0 1 2 0 2"},
	{"x = - a . b )", "0 1 1 1 2 2 6", "1 0 1 2 0 3 0"},
	{"x = a . b ( 1 ) )", "0 1 1 2 2 4 4 5 7", "1 0 1 0 2 0 2 0 0"},
	// Locals and functions.
	{"local )", "0 0", "0 0"},
	{"local x )", "0 0 1", "0 0 0"},
	{"local x end", "0 0 2", "0 0 0"},
	{"local x , )", "0 0 0 0", "0 0 0 0"},
	{"local x = )", "0 0 0 0", "0 0 0 1"},
	{"local x = 1 )", "0 0 0 0 2", "0 0 0 1 0"},
	{"local x , y = 1 , 2 $", "0 0 0 0 0 0 1 1 4", "0 0 0 0 0 1 0 1 0"},
	{"local function )", "0 0 0", "0 1 0"},
	{"local function f )", "0 0 0 0", "0 1 0 0"},
	{"local function f ( ) )", "0 0 0 0 0 0", "0 1 0 0 0 2"},
	{"local function f ( ) end $", "0 0 0 0 0 1 4", "0 1 0 0 0 2 0"},
	{"local function f ( ) end )", "0 0 0 0 0 1 3", "0 1 0 0 0 2 0"},
	{"local function f ( ) until", "0 0 0 0 0 1", "0 1 0 0 0 2"},
	{"local function f ( a , ... ) return a end $", "0 0 0 0 0 0 0 0 0 0 3 6", "0 1 0 0 0 0 0 0 2 3 0 0"},
	{"function )", "0 0", "1 1"},
	{"function a )", "0 0 1", "1 1 0"},
	{"function a . )", "0 0 1 1", "1 1 0 2"},
	{"function a . b )", "0 0 1 1 3", "1 1 0 2 0"},
	{"function a : )", "0 0 1 1", "1 1 0 2"},
	{"function a : b .", "0 0 1 1 3", "1 1 0 2 0"},
	{"function a : b ( ) end $", "0 0 1 1 3 3 4 7", "1 1 0 2 0 0 2 0"},
	{"function a ( ) end )", "0 0 1 1 2 4", "1 1 0 0 2 0"},
	{"x = function )", "0 1 1 1", "1 0 1 0"},
	{"x = function ( ,", "0 1 1 1 1", "1 0 1 0 0"},
	{"x = function ( ... ,", "0 1 1 1 1 1", "1 0 1 0 0 0"},
	{"x = function ( ) )", "0 1 1 1 1 1", "1 0 1 0 0 2"},
	{"x = function ( ) end )", "0 1 1 1 1 2 4", "1 0 1 0 0 2 0"},
	// Blocks.
	{"do )", "0 0", "0 1"},
	{"do END", "0 1", "0 1"},
	{"do else", "0 1", "0 1"},
	{"do end $", "0 1 3", "0 1 0"},
	{"do end )", "0 1 2", "0 1 0"},
	{"do ; end $", "0 0 1 3", "0 1 0 0"},
	{"while )", "0 0", "0 1"},
	{"while a )", "0 0 1", "0 1 0"},
	{"while a do )", "0 0 1 1", "0 1 0 1"},
	{"while a do until", "0 0 1 2", "0 1 0 1"},
	{"while a do END", "0 0 1 2", "0 1 0 1"},
	{"while a do end $", "0 0 1 2 4", "0 1 0 1 0"},
	{"while a do end )", "0 0 1 2 3", "0 1 0 1 0"},
	{"repeat )", "0 0", "0 1"},
	{"repeat end", "0 1", "0 1"},
	{"repeat until )", "0 1 1", "0 1 1"},
	{"repeat until a )", "0 1 1 3", "0 1 1 0"},
	{"repeat until a $", "0 1 1 4", "0 1 1 0"},
	{"if )", "0 0", "0 1"},
	{"if a )", "0 0 1", "0 1 0"},
	{"if a then )", "0 0 1 1", "0 1 0 1"},
	{"if a then until", "0 0 1 2", "0 1 0 1"},
	{"if a then END", "0 0 1 2", "0 1 0 1"},
	{"if a then end $", "0 0 1 2 4", "0 1 0 1 0"},
	{"if a then end )", "0 0 1 2 3", "0 1 0 1 0"},
	{"if a then elseif )", "0 0 1 2 2", "0 1 0 1 1"},
	{"if a then elseif b )", "0 0 1 2 2 3", "0 1 0 1 1 0"},
	{"if a then elseif b then else )", "0 0 1 2 2 3 4 4", "0 1 0 1 1 0 1 1"},
	{"if a then else end )", "0 0 1 2 3 4", "0 1 0 1 1 0"},
	{"if a then else else", "0 0 1 2 3", "0 1 0 1 1"},
	{"if a then else elseif", "0 0 1 2 3", "0 1 0 1 1"},
	// Loops that count, and that ask.
	{"for )", "0 0", "0 0"},
	{"for a )", "0 0 0", "0 0 0"},
	{"for a = )", "0 0 0 0", "0 0 0 1"},
	{"for a = 1 )", "0 0 0 0 1", "0 0 0 1 0"},
	{"for a = 1 do", "0 0 0 0 1", "0 0 0 1 0"},
	{"for a = 1 , )", "0 0 0 0 1 1", "0 0 0 1 0 1"},
	{"for a = 1 , 2 )", "0 0 0 0 1 1 2", "0 0 0 1 0 1 0"},
	{"for a = 1 , 2 , )", "0 0 0 0 1 1 2 2", "0 0 0 1 0 1 0 1"},
	{"for a = 1 , 2 , 3 ,", "0 0 0 0 1 1 2 2 3", "0 0 0 1 0 1 0 1 0"},
	{"for a = 1 , 2 do )", "0 0 0 0 1 1 2 2", "0 0 0 1 0 1 0 1"},
	{"for a = 1 , 2 do end $", "0 0 0 0 1 1 2 3 5", "0 0 0 1 0 1 0 1 0"},
	{"for a = 1 , 2 do end )", "0 0 0 0 1 1 2 3 4", "0 0 0 1 0 1 0 1 0"},
	{"for a , )", "0 0 0 0", "0 0 0 0"},
	{"for a , b =", "0 0 0 0 0", "0 0 0 0 0"},
	{"for a in )", "0 0 0 0", "0 0 0 1"},
	{"for a in b )", "0 0 0 0 1", "0 0 0 1 0"},
	{"for a in b , )", "0 0 0 0 1 1", "0 0 0 1 0 1"},
	{"for a in b do )", "0 0 0 0 1 1", "0 0 0 1 0 1"},
	{"for a , b in c do end $", "0 0 0 0 0 0 1 2 4", "0 0 0 0 0 1 0 1 0"},
	{"for a , b in c do end )", "0 0 0 0 0 0 1 2 3", "0 0 0 0 0 1 0 1 0"},
	// Jumps.
	{"goto )", "0 0", "0 0"},
	{"goto a )", "0 0 1", "0 0 0"},
	{":: )", "0 0", "0 0"},
	{":: a )", "0 0 0", "0 0 0"},
	{":: a :: )", "0 0 0 1", "0 0 0 0"},
	{"break )", "0 1", "0 0"},
	{"break $", "0 2", "0 0"},
	{"; )", "0 0", "0 0"},
	{"; ; $", "0 0 1", "0 0 0"},
	{"return $", "0 2", "0 0"},
	{"return )", "0 0", "0 1"},
	{"return return", "0 0", "0 1"},
	{"return then", "0 0", "0 1"},
	{"return end", "0 2", "0 0"},
	{"return until", "0 2", "0 0"},
	{"return ; )", "0 1 1", "0 0 0"},
	{"return ; ;", "0 1 1", "0 0 0"},
	{"return ; x", "0 1 1", "0 0 0"},
	{"return ; end", "0 1 2", "0 0 0"},
	{"return ; $", "0 1 2", "0 0 0"},
	{"return 1 )", "0 0 2", "0 1 0"},
	{"return 1 x", "0 0 2", "0 1 0"},
	{"return 1 break", "0 0 2", "0 1 0"},
	{"return 1 ; x", "0 0 2 2", "0 1 0 0"},
	{"return 1 , )", "0 0 1 1", "0 1 0 1"},
	{"return 1 , 2 $", "0 0 1 1 4", "0 1 0 1 0"},
	// Tables.
	{"x = { )", "0 1 1 1", "1 0 1 2"},
	{"x = { ,", "0 1 1 1", "1 0 1 2"},
	{"x = { END", "0 1 1 1", "1 0 1 2"},
	{"x = { } )", "0 1 1 1 3", "1 0 1 0 0"},
	{"x = { 1 )", "0 1 1 1 3", "1 0 1 2 0"},
	{"x = { 1 2", "0 1 1 1 3", "1 0 1 2 0"},
	{"x = { 1 , )", "0 1 1 1 3 3", "1 0 1 2 0 2"},
	{"x = { 1 ; ;", "0 1 1 1 3 3", "1 0 1 2 0 2"},
	{"x = { 1 =", "0 1 1 1 3", "1 0 1 2 0"},
	{"x = { [ )", "0 1 1 1 1", "1 0 1 0 2"},
	{"x = { [ 1 )", "0 1 1 1 1 2", "1 0 1 0 2 0"},
	{"x = { [ 1 ] )", "0 1 1 1 1 2 2", "1 0 1 0 2 0 0"},
	{"x = { [ 1 ] = )", "0 1 1 1 1 2 2 2", "1 0 1 0 2 0 0 2"},
	{"x = { [ 1 ] = 2 )", "0 1 1 1 1 2 2 2 4", "1 0 1 0 2 0 0 2 0"},
	{"x = { k )", "0 1 1 1 3", "1 0 1 2 0"},
	{"x = { k = )", "0 1 1 1 2 2", "1 0 1 2 0 2"},
	{"x = { k = 1 )", "0 1 1 1 2 2 4", "1 0 1 2 0 2 0"},
	{"x = { k = 1 , } $", "0 1 1 1 2 2 4 4 7", "1 0 1 2 0 2 0 0 0"},
	{"x = { k == 1 } $", "0 1 1 1 2 2 5 8", "1 0 1 2 0 3 0 0"},
	// What begins no statement.
	{"+", "0", "0"}, {"=", "0", "0"}, {"1", "0", "0"}, {"'s'", "0", "0"}, {"nil", "0", "0"}, {"...", "0", "0"}, {"{", "0", "0"},
	{"then", "0", "0"}, {"in", "0", "0"}, {"not", "0", "0"}, {"-", "0", "0"}, {"]", "0", "0"}, {",", "0", "0"}, {":", "0", "0"}, {"true", "0", "0"},
}

func numbers(s string) []int {
	var out []int
	for _, s := range strings.Fields(s) {
		n, err := strconv.Atoi(s)
		if err != nil {
			panic(s)
		}
		out = append(out, n)
	}
	return out
}

// lines answers the row's tokens, each in a line of its own, its end as last, and whether that is no fault.
func (r row) lines() (string, bool) {
	s := strings.ReplaceAll(r.tokens, " ", "\n")
	if cut, is := strings.CutSuffix(s, "$"); is {
		return cut, true
	}
	return strings.TrimSuffix(s, "END"), false
}

func wantFault(t *testing.T, what, text string, want api.Fault) {
	t.Helper()
	s, fault := parse.Parse(text)
	if fault != want {
		t.Errorf("%s: Parse(%s): %v, want %v", what, shown(text), fault, want)
	}
	if (fault != api.Fault{}) && (len(s.Nodes) != 0 || s.Root != 0) {
		t.Errorf("%s: Parse(%s): nodes beside a fault", what, shown(text))
	}
}

func TestRowsFit(t *testing.T) {
	for _, r := range rows {
		count := len(strings.Fields(r.tokens))
		if len(numbers(r.ended)) != count || len(numbers(r.level)) != count {
			t.Error("a row of unlike length:", r)
		}
	}
}

// P6.1: the one node too many: told with the token that it has ended ahead of, ahead of what else is wrong there.
func TestRowsNodes(t *testing.T) {
	for _, r := range rows {
		text, fine := r.lines()
		ended := numbers(r.ended)
		want := func(breaks int) api.Fault {
			for i, n := range ended {
				if breaks+n > 4096 {
					return api.Fault{Err: api.ErrLong, Line: breaks + i + 1}
				}
			}
			switch last := breaks + len(ended); {
			case !fine:
				return api.Fault{Err: api.ErrSyntax, Line: last}
			case breaks+ended[len(ended)-1] == 4096: // The root is one more.
				return api.Fault{Err: api.ErrLong, Line: last}
			}
			return api.Fault{}
		}
		wantFault(t, r.tokens, text, want(0))
		for breaks := 4096 - ended[len(ended)-1] - 2; breaks <= 4096; breaks++ {
			wantFault(t, r.tokens+", behind "+strconv.Itoa(breaks)+" nodes", strings.Repeat("break\n", breaks)+text, want(breaks))
		}
	}
}

// P6.1: the one level too many: told where it begins, or must begin, ahead of what else is wrong there.
func TestRowsLevels(t *testing.T) {
	for _, r := range rows {
		for _, around := range [][2]string{{"repeat\n", "until x\n"}, {"do\n", "end\n"}, {"while x do\n", "end\n"}, {"if x then\n", "end\n"}, {"x=function() ", "end\n"}} {
			if closer := strings.Fields(around[1])[0]; strings.HasSuffix(r.tokens, closer) {
				// There the row would be right.
				continue
			}
			depth := 1
			if strings.Contains(around[0], "function") {
				depth = 2
			}
			for count := 94 / depth; 1+count*depth <= 100; count++ {
				wantFault(t, r.tokens+", behind "+strconv.Itoa(count)+" "+around[0], deep(r, around, count), r.wantDeep(around, count, depth))
			}
		}
	}
}

// deep answers the row within so many blocks.
func deep(r row, around [2]string, count int) string {
	text, fine := r.lines()
	text = strings.Repeat(around[0], count) + text
	if fine {
		text += "\n" + strings.Repeat(around[1], count)
	}
	return text
}

func (r row) wantDeep(around [2]string, count, depth int) api.Fault {
	_, fine := r.lines()
	above := strings.Count(around[0], "\n") * count
	for i, level := range numbers(r.level) {
		if level > 0 && 1+count*depth+level > 100 {
			return api.Fault{Err: api.ErrLong, Line: above + i + 1}
		}
	}
	if !fine {
		return api.Fault{Err: api.ErrSyntax, Line: above + len(strings.Fields(r.tokens))}
	}
	return api.Fault{}
}
