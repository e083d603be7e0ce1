package lex_test

import (
	"math/big"
	"math/rand"
	"regexp"
	"slices"
	"strconv"
	"strings"
	"testing"

	"twinstep/api"
	"twinstep/ints"
	"twinstep/lex"
	"twinstep/texts"
)

const (
	words    = "and break do else elseif end false for function goto if in local nil not or repeat return then true until while"
	allSigns = "+ - * % # & ~ | << >> // == ~= <= >= < > = ( ) { } [ ] :: ; : , . .. ..."
)

// Tokens of the first line.

func name(s string) api.Token  { return api.Token{Kind: api.TName, S: s, Line: 1} }
func word(s string) api.Token  { return api.Token{Kind: api.TWord, S: s, Line: 1} }
func sign(s string) api.Token  { return api.Token{Kind: api.TSign, S: s, Line: 1} }
func whole(n int64) api.Token  { return api.Token{Kind: api.TInt, N: n, Line: 1} }
func says(s string) api.Token  { return api.Token{Kind: api.TStr, S: s, Line: 1} }
func end(line int) api.Token   { return api.Token{Kind: api.TEnd, Line: line} }
func show(s string) string     { return strconv.Quote(s[:min(len(s), 200)]) }
func bytesOf(b ...byte) string { return string(b) }

// on answers the token t on another line.
func on(line int, t api.Token) api.Token {
	t.Line = line
	return t
}

// wantAll asks for just these tokens.
func wantAll(t *testing.T, text string, want ...api.Token) {
	t.Helper()
	got, fault := lex.Tokens(text)
	if fault != (api.Fault{}) || !slices.Equal(got, want) {
		t.Errorf("Tokens(%s) = %v %v, want %v", show(text), got, fault, want)
	}
}

// wantOne asks for the tokens of a text of one line, its end aside.
func wantOne(t *testing.T, text string, want ...api.Token) {
	t.Helper()
	wantAll(t, text, append(want, end(1))...)
}

func wantFault(t *testing.T, text string, err api.Errno, line int) {
	t.Helper()
	got, fault := lex.Tokens(text)
	if want := (api.Fault{Err: err, Line: line}); fault != want || len(got) != 0 {
		t.Errorf("Tokens(%s) = %v %v, want %v", show(text), got, fault, want)
	}
}

// The chapter's table, once more, by expressions: what told answers is what Tokens should.

var (
	blank     = regexp.MustCompile(`^[\x09-\x0d ]`)
	opening   = regexp.MustCompile(`^\[(=*)\[`)
	lineNote  = regexp.MustCompile(`^--[^\n\r]*`)
	letters   = regexp.MustCompile(`^[A-Za-z_][A-Za-z_0-9]*`)
	hexRun    = regexp.MustCompile(`^0[xX](?:[pP][+-]|[0-9A-Za-z_.])*`)
	plainRun  = regexp.MustCompile(`^(?:[0-9]|\.[0-9])(?:[eE][+-]|[0-9A-Za-z_.])*`)
	digits    = regexp.MustCompile(`^[0-9]+$`)
	hexDigits = regexp.MustCompile(`^0[xX][0-9A-Fa-f]+$`)
	literals  = regexp.MustCompile(`^(?s:"(?:[^"\\]|\\.)*"|'(?:[^'\\]|\\.)*')`)
	lineEnd   = regexp.MustCompile(`\r\n|\n\r|\r|\n`)
	signed    = regexp.MustCompile(`^(?:\.\.\.|<<|>>|//|==|~=|<=|>=|::|\.\.|[-+*%#&~|<>=(){}\[\];:,.])`)
)

func told(text string) ([]api.Token, api.Fault) {
	var out []api.Token
	if len(text) > 65535 {
		return nil, api.Fault{Err: api.ErrLong}
	}
	line := func(at int) int { return 1 + len(lineEnd.FindAllString(text[:at], -1)) }
	at := 0
	for at < len(text) {
		token, length, err := toldNext(text[at:])
		if err != api.OK {
			return nil, api.Fault{Err: err, Line: line(at)}
		}
		if token.Kind != 0 {
			out = append(out, on(line(at), token))
		}
		at += length
	}
	return append(out, end(line(at))), api.Fault{}
}

func toldNext(rest string) (api.Token, int, api.Errno) {
	if s := blank.FindString(rest); s != "" {
		return api.Token{}, len(s), api.OK
	}
	if strings.HasPrefix(rest, "--") {
		switch _, length, is := toldLong(rest[2:]); {
		case !is:
			return api.Token{}, len(lineNote.FindString(rest)), api.OK
		case length == 0:
			return api.Token{}, 0, api.ErrToken
		default:
			return api.Token{}, 2 + length, api.OK
		}
	}
	if s := letters.FindString(rest); s != "" {
		if slices.Contains(strings.Fields(words), s) {
			return api.Token{Kind: api.TWord, S: s}, len(s), api.OK
		}
		return api.Token{Kind: api.TName, S: s}, len(s), api.OK
	}
	if plainRun.MatchString(rest) {
		return toldNumeral(rest)
	}
	if said, length, is := toldLong(rest); is {
		if length == 0 {
			return api.Token{}, 0, api.ErrToken
		}
		return api.Token{Kind: api.TStr, S: said}, length, api.OK
	}
	if rest[0] == '"' || rest[0] == '\'' {
		s := literals.FindString(rest)
		said, err := texts.Unquote(s)
		return api.Token{Kind: api.TStr, S: said}, len(s), err
	}
	s := signed.FindString(rest)
	switch {
	case strings.HasPrefix(rest, "[="):
		return api.Token{}, 0, api.ErrToken
	case s != "":
		return api.Token{Kind: api.TSign, S: s}, len(s), api.OK
	case rest[0] == '/' || rest[0] == '^':
		return api.Token{}, 0, api.ErrNoFloat
	}
	return api.Token{}, 0, api.ErrToken
}

func toldNumeral(rest string) (api.Token, int, api.Errno) {
	s, marks := plainRun.FindString(rest), ".eE"
	if hexRun.MatchString(rest) {
		s, marks = hexRun.FindString(rest), ".pP"
	}
	n, isDigits, isHex := new(big.Int), digits.MatchString(s), hexDigits.MatchString(s)
	if isDigits {
		n.SetString(s, 10)
	}
	if isHex {
		n.SetString(s[2:], 16)
		n.Mod(n, new(big.Int).Lsh(big.NewInt(1), 64))
	}
	switch {
	case isHex:
		return api.Token{Kind: api.TInt, N: int64(n.Uint64())}, len(s), api.OK
	case isDigits && n.IsInt64():
		return api.Token{Kind: api.TInt, N: n.Int64()}, len(s), api.OK
	case isDigits || strings.ContainsAny(s, marks):
		return api.Token{}, 0, api.ErrNoFloat
	}
	return api.Token{}, 0, api.ErrToken
}

// toldLong answers what the long bracket says that rest begins with, how many bytes there are up to its end (0: it has none), and whether there is one.
func toldLong(rest string) (string, int, bool) {
	parts := opening.FindStringSubmatch(rest)
	if parts == nil {
		return "", 0, false
	}
	said, _, found := strings.Cut(rest[len(parts[0]):], "]"+parts[1]+"]")
	if !found {
		return "", 0, true
	}
	length := len(said) + 2*len(parts[0])
	return strings.TrimPrefix(lineEnd.ReplaceAllString(said, "\n"), "\n"), length, true
}

func checkTold(t *testing.T, text string) {
	t.Helper()
	want, wantFault := told(text)
	got, fault := lex.Tokens(text)
	if fault != wantFault || !slices.Equal(got, want) {
		t.Fatalf("Tokens(%s) = %v %v, want %v %v", show(text), got, fault, want, wantFault)
	}
}

// someTexts hands over texts of parts: all of those of up to three, and as many again by lot, of up to most parts, the same ones each time.
func someTexts(parts []string, most int, check func(s string)) {
	var all func(s string, left int)
	all = func(s string, left int) {
		check(s)
		for i := 0; i < len(parts) && left > 0; i++ {
			all(s+parts[i], left-1)
		}
	}
	all("", 3)
	lot := rand.New(rand.NewSource(4))
	for range 30000 {
		var s strings.Builder
		for range 4 + lot.Intn(most-3) {
			s.WriteString(parts[lot.Intn(len(parts))])
		}
		check(s.String())
	}
}

// P4.1: every word and sign, and what is none.

func TestWord(t *testing.T) {
	for _, s := range strings.Fields(words) {
		if !lex.Word(s) {
			t.Errorf("%s is a word", s)
		}
		for _, other := range []string{s + "s", s + "_", s + "1", "_" + s, " " + s, s + " ", s + "\x00", s[1:], strings.ToUpper(s), strings.ToUpper(s[:1]) + s[1:], s + s, s + "\n"} {
			if lex.Word(other) && !slices.Contains(strings.Fields(words), other) {
				t.Errorf("%q is no word", other)
			}
		}
	}
	for _, s := range append(strings.Fields(allSigns), "", " ", "x", "self", "continue", "elif", "var", "an", "el", "1", words, "and break") {
		if lex.Word(s) {
			t.Errorf("%q is no word", s)
		}
	}
}

func TestSigns(t *testing.T) {
	want := strings.Fields(allSigns)
	slices.Sort(want)
	if got := lex.Signs(); !slices.Equal(got, want) || len(got) != 31 {
		t.Errorf("Signs() = %q, want %q", got, want)
	}
}

// R3: what is handed out is new each time, and what is done with it changes nothing.
func TestSignsAreNew(t *testing.T) {
	want := lex.Signs()
	got := lex.Signs()
	clear(got)
	_ = append(got[:0], slices.Repeat([]string{"!"}, cap(got))...)
	if !slices.Equal(lex.Signs(), want) {
		t.Errorf("Signs() = %q, want %q", lex.Signs(), want)
	}
	wantOne(t, "#~=", sign("#"), sign("~="))
}

func TestTokensAreNew(t *testing.T) {
	const text = "a = 'b'"
	got, _ := lex.Tokens(text)
	clear(got)
	checkTold(t, text)
}

// P4.2: the examples, and ordinary texts.

func TestTokens(t *testing.T) {
	wantOne(t, "x=0x10--[[a]]..'b'", name("x"), sign("="), whole(16), sign(".."), says("b"))
	wantAll(t, "a -- b\nend", name("a"), on(2, word("end")), end(2))
	wantAll(t, "[==[\r\nx]]\n]==]", says("x]]\n"), end(3))
	wantOne(t, "")
	wantOne(t, "local function f(...) return -x.y[1] end", word("local"), word("function"), name("f"), sign("("), sign("..."), sign(")"),
		word("return"), sign("-"), name("x"), sign("."), name("y"), sign("["), whole(1), sign("]"), word("end"))
	wantOne(t, "goto a ::a::", word("goto"), name("a"), sign("::"), name("a"), sign("::"))
	wantOne(t, "a.b:c'd'", name("a"), sign("."), name("b"), sign(":"), name("c"), says("d"))
	wantOne(t, "{[1]=2,x=3;}", sign("{"), sign("["), whole(1), sign("]"), sign("="), whole(2), sign(","), name("x"), sign("="), whole(3), sign(";"), sign("}"))
	wantOne(t, "t[ [[x]] ]", name("t"), sign("["), says("x"), sign("]"))
	wantOne(t, "a//b", name("a"), sign("//"), name("b"))
}

// P4.2: blanks are nothing, one and all.
func TestBlanks(t *testing.T) {
	for n := range 256 {
		text := "a" + bytesOf(byte(n)) + "b"
		switch {
		case n == '\n' || n == '\r':
			wantAll(t, text, name("a"), on(2, name("b")), end(2))
		case 9 <= n && n <= 13 || n == 32:
			wantOne(t, text, name("a"), name("b"))
			wantOne(t, bytesOf(byte(n), byte(n)))
		}
	}
}

// P4.2: each word, alone and run together with what may follow; names that begin with a word, or are one in capitals.
func TestWordsAndNames(t *testing.T) {
	for _, s := range strings.Fields(words) {
		wantOne(t, s, word(s))
		for _, behind := range []string{"x", "_", "1", "Z9_", "end"} {
			if !slices.Contains(strings.Fields(words), s+behind) {
				wantOne(t, s+behind, name(s+behind))
			}
			wantOne(t, "x"+s, name("x"+s))
			wantOne(t, "_"+s, name("_"+s))
		}
		wantOne(t, strings.ToUpper(s), name(strings.ToUpper(s)))
		for _, behind := range strings.Fields(allSigns) {
			wantOne(t, s+behind, word(s), sign(behind))
			wantOne(t, "n"+behind+s, name("n"), sign(behind), word(s))
		}
		wantOne(t, s+"''", word(s), says(""))
		wantOne(t, s+"[[x]]", word(s), says("x"))
		wantOne(t, s+"--x", word(s))
	}
	wantOne(t, "elseif else if elseiff", word("elseif"), word("else"), word("if"), name("elseiff"))
	wantOne(t, "_ __ _1 a1b2 Aa0_", name("_"), name("__"), name("_1"), name("a1b2"), name("Aa0_"))
	wantOne(t, strings.Repeat("a", 65535), name(strings.Repeat("a", 65535)))
	wantOne(t, "self continue", name("self"), name("continue"))
}

// P4.2: each sign, alone and ahead of and behind others: the longest one that fits.
func TestSignsRunTogether(t *testing.T) {
	for _, s := range strings.Fields(allSigns) {
		wantOne(t, s, sign(s))
		wantOne(t, " "+s+" x", sign(s), name("x"))
		wantOne(t, "x"+s+"y", name("x"), sign(s), name("y"))
	}
	wantOne(t, "....", sign("..."), sign("."))
	wantOne(t, ".....", sign("..."), sign(".."))
	wantOne(t, "a..b...c.d", name("a"), sign(".."), name("b"), sign("..."), name("c"), sign("."), name("d"))
	wantOne(t, ":::", sign("::"), sign(":"))
	wantOne(t, "<<<=", sign("<<"), sign("<="))
	wantOne(t, "<<==", sign("<<"), sign("=="))
	wantOne(t, "<=<", sign("<="), sign("<"))
	wantOne(t, ">>>", sign(">>"), sign(">"))
	wantOne(t, ">>=>", sign(">>"), sign("="), sign(">"))
	wantOne(t, "===", sign("=="), sign("="))
	wantOne(t, "~==", sign("~="), sign("="))
	wantOne(t, "~~=", sign("~"), sign("~="))
	wantOne(t, "- -", sign("-"), sign("-"))
	wantOne(t, "-+-", sign("-"), sign("+"), sign("-"))
	wantOne(t, "][ ", sign("]"), sign("["))
	wantOne(t, "]]", sign("]"), sign("]"))
	wantOne(t, "]=]", sign("]"), sign("="), sign("]"))
	wantOne(t, "[ [", sign("["), sign("["))
	wantOne(t, "[ =[", sign("["), sign("="), sign("["))
	wantOne(t, "[", sign("["))
	wantOne(t, "////", sign("//"), sign("//"))
	wantFault(t, "///", api.ErrNoFloat, 1)
	someTexts(strings.Fields(allSigns), 8, func(s string) { checkTold(t, s) })
}

// P4.2: lines, by a byte 10, a byte 13, or both in either order.
func TestLines(t *testing.T) {
	for ends, more := range map[string]int{
		"": 0, "\n": 1, "\r": 1, "\n\r": 1, "\r\n": 1, "\n\n": 2, "\r\r": 2, "\r\n\r": 2, "\n\r\n": 2, "\n\r\n\r": 2, "\r\n\r\n": 2, "\r\n\n\r": 2,
		"\n\n\r": 2, "\r\r\n": 2, "\n\r\r": 2, "\r\n\n": 2, "\r\r\r": 3, "\n \r": 2, "\r\t\n": 2, "\v\f\n\r\v": 1, "\n\r\n\n": 3, "\r\n\r\r": 3,
	} {
		wantAll(t, ends, end(1+more))
		wantAll(t, ends+"x", on(1+more, name("x")), end(1+more))
		wantAll(t, "x "+ends+" = "+ends, name("x"), on(1+more, sign("=")), end(1+2*more))
		wantAll(t, "--"+ends+"--x"+ends, end(1+2*more))
		wantAll(t, "[[x"+ends+"]]y"+ends, says("x"+lineEnd.ReplaceAllString(ends, "\n")), on(1+more, name("y")), end(1+2*more))
		wantAll(t, "--[[x"+ends+"]]y", on(1+more, name("y")), end(1+more))
		wantAll(t, "'a\\z"+ends+"b' c", says("ab"), on(1+more, name("c")), end(1+more))
		wantFault(t, "x"+ends+"@", api.ErrToken, 1+more)
		wantFault(t, ends+"[["+ends, api.ErrToken, 1+more)
		wantFault(t, ends+"--[["+ends, api.ErrToken, 1+more)
		wantFault(t, ends+"'\\z"+ends, api.ErrToken, 1+more)
		wantFault(t, "[["+ends+"]]/"+ends, api.ErrNoFloat, 1+more)
	}
	someTexts([]string{"\n", "\r", "x", "--", "[[", "]]", "'\\", "\\z", "'", " "}, 16, func(s string) { checkTold(t, s) })
}

// P4.2: notes up to the line's end, or the text's.
func TestNotes(t *testing.T) {
	wantOne(t, "--")
	wantOne(t, "---")
	wantOne(t, "-- 'a \" [[ @ / 1.5")
	wantOne(t, "a--b--c", name("a"))
	wantOne(t, "- --", sign("-"))
	wantOne(t, "a---b", name("a"))
	wantAll(t, "--a\rb", on(2, name("b")), end(2))
	wantAll(t, "--a\r\nb--\n", on(2, name("b")), end(3))
	wantAll(t, "-- a\v\f\tb\nc", on(2, name("c")), end(2))
	wantAll(t, "--\xff\x00\nc", on(2, name("c")), end(2))
	// What only looks like a long bracket ends with its line.
	for _, ahead := range []string{"[", "[=", "[==", "[x[", "[=x[", "[ [", " [[", "[= [", "=[[", "]]", "[=]", "-[[", "--[[", "[=\\[", "x[["} {
		wantAll(t, "--"+ahead+"\nx", on(2, name("x")), end(2))
		wantAll(t, "--"+ahead+" ]] ]=] \rx", on(2, name("x")), end(2))
		wantOne(t, "--"+ahead)
	}
	wantAll(t, "--[=\n[x", on(2, sign("[")), on(2, name("x")), end(2))
}

// P4.2: notes of long brackets.
func TestLongNotes(t *testing.T) {
	wantOne(t, "--[[]]")
	wantOne(t, "--[[]]a", name("a"))
	wantOne(t, "a--[[b]]c", name("a"), name("c"))
	wantOne(t, "a--[=[b]]c]==]d]=]e", name("a"), name("e"))
	wantOne(t, "a--[==[--]==]--[[b]]c", name("a"), name("c"))
	wantOne(t, "--[[a]]]", sign("]"))
	wantOne(t, "--[[[[a]]")
	wantOne(t, "--[[a]]--b]]")
	wantOne(t, "--[[@ ' 1.5 /]]..", sign(".."))
	wantAll(t, "--[[a\nb\r\nc]] d", on(3, name("d")), end(3))
	for _, text := range []string{"--[[", "--[[]", "--[[a]=]", "--[=[a]]", "--[=[", "--[=[]=", "--[==[]=]", "--[[\n\n", "--[[--]", "--[====["} {
		wantFault(t, text, api.ErrToken, 1)
		wantFault(t, "\n\r\n"+text, api.ErrToken, 3)
	}
}

// P4.2: long brackets of several levels.
func TestLongBrackets(t *testing.T) {
	for level := range 5 {
		equals := strings.Repeat("=", level)
		opens, closes := "["+equals+"[", "]"+equals+"]"
		long := func(s string) string { return opens + s + closes }
		wantOne(t, long(""), says(""))
		wantOne(t, long("x"), says("x"))
		wantOne(t, "f"+long("x")+"y", name("f"), says("x"), name("y"))
		wantOne(t, long("]"+equals+"=] "), says("]"+equals+"=] "))
		wantOne(t, long(equals+"["), says(equals+"["))
		wantOne(t, long(opens), says(opens))
		wantOne(t, long("a\x00\xff\\n'\"--"), says("a\x00\xff\\n'\"--"))
		wantOne(t, long("a")+"]", says("a"), sign("]"))
		for _, lineEnd := range []string{"\n", "\r", "\n\r", "\r\n"} {
			wantAll(t, long(lineEnd), says(""), end(2))
			wantAll(t, long(lineEnd+"x"), says("x"), end(2))
			wantAll(t, long(lineEnd+lineEnd), says("\n"), end(3))
			wantAll(t, long(lineEnd+lineEnd+"x"), says("\nx"), end(3))
			wantAll(t, long("x"+lineEnd), says("x\n"), end(2))
			wantAll(t, long("x"+lineEnd+lineEnd+"y"), says("x\n\ny"), end(3))
			wantAll(t, long(" "+lineEnd+"x"), says(" \nx"), end(2))
			wantAll(t, "\n"+long("\n"+lineEnd+" "+lineEnd)+"z", lastLines(t, "\n"+long("\n"+lineEnd+" "+lineEnd))...)
		}
		for _, text := range []string{opens, opens + "]", opens + "]" + equals, opens + "]" + equals + "=]", opens + "\n]" + equals, opens + opens, opens + "'" + "]" + equals + " ]"} {
			wantFault(t, text, api.ErrToken, 1)
			wantFault(t, "x\r"+text, api.ErrToken, 2)
		}
	}
	wantOne(t, "[=[a]]b]=]", says("a]]b"))
	wantOne(t, "[=[]]=]", says("]"))
	wantOne(t, "[==[]=]==]", says("]="))
	wantOne(t, "[[[=[a]]", says("[=[a"))
	wantOne(t, "[[a]]b]]", says("a"), name("b"), sign("]"), sign("]"))
	wantOne(t, "t[[[a]]]", name("t"), says("[a"), sign("]"))
	for _, text := range []string{"[=", "[==", "[=x", "[=]", "[=[", "[==x[", "[= [", "t[=", "[=\n[", "x[=1]"} {
		wantFault(t, text, api.ErrToken, 1)
	}
	someTexts([]string{"[", "]", "=", "\n", "\r", "a", "--"}, 24, func(s string) { checkTold(t, s) })
}

// lastLines answers what told does of text, and a name z behind it.
func lastLines(t *testing.T, text string) []api.Token {
	t.Helper()
	out, fault := told(text)
	if fault != (api.Fault{}) || len(out) != 2 {
		t.Fatalf("told(%s) = %v %v", show(text), out, fault)
	}
	return []api.Token{out[0], on(out[1].Line, name("z")), out[1]}
}

// P4.2: numerals that are whole numbers.
func TestWholeNumbers(t *testing.T) {
	for s, n := range map[string]int64{
		"0": 0, "00": 0, "7": 7, "007": 7, "10": 10, "1234567890": 1234567890, "08": 8,
		"9223372036854775807": 1<<63 - 1, "9223372036854775806": 1<<63 - 2, "0009223372036854775807": 1<<63 - 1, strings.Repeat("0", 1000) + "12": 12,
		"0x0": 0, "0x10": 16, "0Xff": 255, "0xAbCdEf": 0xabcdef, "0x7fffffffffffffff": 1<<63 - 1, "0x8000000000000000": -1 << 63, "0xffffffffffffffff": -1,
		"0x10000000000000000": 0, "0x1fffffffffffffffe": -2, "0x123450000000000000067": 0x67, "0x" + strings.Repeat("f", 100): -1, "0x" + strings.Repeat("0", 100) + "1": 1,
		// e and E are hex digits there.
		"0xe": 14, "0XE": 14, "0x1e5": 0x1e5, "0xE0": 0xe0,
	} {
		wantOne(t, s, whole(n))
		wantOne(t, "-"+s+" ", sign("-"), whole(n))
		wantOne(t, "a"+"="+s+"]", name("a"), sign("="), whole(n), sign("]"))
		wantOne(t, s+"--1.5", whole(n))
		wantOne(t, s+"'x'", whole(n), says("x"))
		wantOne(t, s+" ..x", whole(n), sign(".."), name("x"))
		wantOne(t, ".."+s, sign(".."), whole(n))
		wantOne(t, "..."+s, sign("..."), whole(n))
		wantOne(t, "x"+s, name("x"+s))
	}
	// A sign goes on with an e that is an exponent's letter alone.
	wantOne(t, "0xe+1", whole(14), sign("+"), whole(1))
	wantOne(t, "0x1E-1", whole(30), sign("-"), whole(1))
	wantOne(t, "1+1", whole(1), sign("+"), whole(1))
	wantOne(t, "1-1", whole(1), sign("-"), whole(1))
	wantOne(t, "1--1", whole(1))
}

// P4.2: numerals that are none of the whole ones.
func TestNoFloats(t *testing.T) {
	for _, s := range []string{
		"9223372036854775808", "9223372036854775809", "18446744073709551615", "18446744073709551616", "18446744073709551617", "09223372036854775808", strings.Repeat("9", 1000),
		"1.5", "1.", "0.", ".5", ".5.", "1..2", "1..x", "1...", "3.x", "3x.", "3._", ".0", "1.2.3", "a.1", "....5", "..1.5", "1..", "5..'a'",
		"1e3", "1E3", "1e", "1E", "1e+3", "1E-3", "1e+", "1e-", "1ee", "1xe", "1_e", "e1=1e1", "0e", "3xE5", ".5e1", ".5e-1", "1e+3e-5", "1e3x", "1xyze",
		"0x.", "0x1.", "0x.1", "0x1.8p1", "0xp", "0xP", "0x1p", "0x1P", "0x1p4", "0x1p+4", "0X1P-4", "0x1p+", "0xgp", "0xg.", "0x1ep+1", "0xx.", "0x1p+1p-1", "0x..", "0x1..2",
		"/", "^", "a/b", "a/ /b", "2^3", "x=1^2", "///", "/=", "^^", "a ^", "/*",
	} {
		wantFault(t, s, api.ErrNoFloat, 1)
		wantFault(t, "\n\n"+s, api.ErrNoFloat, 3)
	}
	// How far a numeral goes tells the sign behind it, and what is the first fault.
	wantFault(t, "1e+@", api.ErrNoFloat, 1)
	wantFault(t, "1e\n@", api.ErrNoFloat, 1)
	wantFault(t, "1x+.5", api.ErrToken, 1)
}

func TestNumeralsThatAreNone(t *testing.T) {
	for _, s := range []string{
		"3x", "0x", "0X", "0xg", "0x1g", "0xx", "0x_", "1_000", "1_", "0x1_0", "12abc", "1p", "1p5", "1P", "0b1", "0o7", "1x", "0xh+1", "0xge", "0xeg", "0xEz", "0xge+1", "1u", "00x1", "00x",
		"1p+.5", "10x", "1end", "0xfor", "9223372036854775807x", "0xE_",
	} {
		err := api.ErrToken
		if s == "1end" {
			// It has an e.
			err = api.ErrNoFloat
		}
		wantFault(t, s, err, 1)
		wantFault(t, "a\r\n"+s, err, 2)
	}
	someTexts([]string{"0", "1", "x", "X", "e", "E", "p", "P", "f", "g", "_", ".", "+", "-", " "}, 14, func(s string) { checkTold(t, s) })
	someTexts([]string{"0x", "9", "9223372036854775807", "9223372036854775808", "ffffffffffffffff", "e", "p", "+", ".", " "}, 8, func(s string) { checkTold(t, s) })
}

// P4.2: short literals, up to the first quote that is no part of an escape.
func TestShortLiterals(t *testing.T) {
	wantOne(t, `""`, says(""))
	wantOne(t, `''`, says(""))
	wantOne(t, `'a'"b"`, says("a"), says("b"))
	wantOne(t, `"it's"'"'`, says("it's"), says(`"`))
	wantOne(t, `"\""'\''x`, says(`"`), says("'"), name("x"))
	wantOne(t, `"\\""\\\""`, says(`\`), says(`\"`))
	wantOne(t, `'\65\x42\u{43}\z  D'`, says("ABCD"))
	wantOne(t, `"a\nb\0c\255"x`, says("a\nb\x00c\xff"), name("x"))
	wantOne(t, `"--[["`, says("--[["))
	wantOne(t, `"[[" "]]"`, says("[["), says("]]"))
	wantOne(t, "\"\x00\xff\xc3\xa4\"", says("\x00\xff\xc3\xa4"))
	wantOne(t, `f'a'..[[b]]`, name("f"), says("a"), sign(".."), says("b"))
	// Escapes that go over a line's end.
	wantAll(t, "'a\\\nb' c", says("a\nb"), on(2, name("c")), end(2))
	wantAll(t, "'a\\\rb' c", says("a\nb"), on(2, name("c")), end(2))
	wantAll(t, "'a\\\r\nb' c", says("a\nb"), on(2, name("c")), end(2))
	wantAll(t, "\"a\\\n\rb\" c", says("a\nb"), on(2, name("c")), end(2))
	wantAll(t, "\"\\\n\\\n\\\r\"\nc", says("\n\n\n"), on(5, name("c")), end(5))
	wantAll(t, "'a\\z \n\t\r\n\v b' c", says("ab"), on(3, name("c")), end(3))
	wantAll(t, "'\\z\n\r\n\r'c", says(""), on(3, name("c")), end(3))
	wantAll(t, "\n'\\z\n\\\n'\nc", on(2, says("\n")), on(5, name("c")), end(5))
}

func TestShortLiteralsThatAreNone(t *testing.T) {
	for _, s := range []string{
		`"`, `'`, `"a`, `'a"`, `"a'`, `"a\"`, `'\'`, `"\\\"`, `"a\`, "\"a\n\"", "'a\rb'", "'\n", "'a\n", "\"\\\n\n\"", "'\\\r\r'", "'\\\n\r\n'", "'\\z\n",
		`"\q"`, `"\256"`, `"\xg0"`, `"\x4"`, `"\u{}"`, `"\u{80000000}"`, `"\u41"`, `'\ '`, `"\A"`, `"\-"`, `'a\`, `""" `, `"a" 'b`, `"\x"`, `"\u{"}"`, `'\x4'2'`, `"\u{4"1}"`,
	} {
		wantFault(t, s, api.ErrToken, 1)
		wantFault(t, "--\n[[\n]]"+s, api.ErrToken, 3)
	}
	someTexts([]string{"'", "\"", "\\", "\n", "\r", "a", "z", "x4", "2", " ", "u{4", "}"}, 14, func(s string) { checkTold(t, s) })
}

// P4.2: each byte there is, alone and between names; each two of them.
func TestEveryByte(t *testing.T) {
	begins := "+-*%#&~|<>=(){}[];:,.\t\n\v\f\r _"
	for n := range 256 {
		b := byte(n)
		s := bytesOf(b)
		checkTold(t, "a"+s+"b")
		letter := 'a' <= b && b <= 'z' || 'A' <= b && b <= 'Z' || '0' <= b && b <= '9'
		switch {
		case b == '/' || b == '^':
			wantFault(t, s, api.ErrNoFloat, 1)
		case !letter && strings.IndexByte(begins, b) < 0:
			wantFault(t, s, api.ErrToken, 1)
			wantFault(t, "\r\r"+s, api.ErrToken, 3)
		default:
			if _, fault := lex.Tokens(s); fault != (api.Fault{}) {
				t.Errorf("Tokens(%q): %v", s, fault)
			}
		}
		for other := range 256 {
			checkTold(t, bytesOf(b, byte(other)))
		}
	}
}

// P4.2: of several faults the first one, whatever kinds they are of.
func TestFirstFault(t *testing.T) {
	faults := []struct {
		s   string
		err api.Errno
	}{
		{"@", api.ErrToken}, {"1.5", api.ErrNoFloat}, {"3x", api.ErrToken}, {"a/b", api.ErrNoFloat}, {"^", api.ErrNoFloat},
		{"'\n", api.ErrToken}, {"[=", api.ErrToken}, {"\"\\q\"", api.ErrToken}, {"9223372036854775808", api.ErrNoFloat}, {"\x80", api.ErrToken},
	}
	for _, first := range faults {
		for _, second := range faults {
			wantFault(t, "x = y\n"+first.s+"\n"+second.s, first.err, 2)
			wantFault(t, "--[[\n"+second.s+"]]\n-- "+second.s+"\n"+first.s+" "+second.s, first.err, 4+strings.Count(second.s, "\n")*2)
		}
	}
}

// P4.2: a text's length.
func TestLength(t *testing.T) {
	const most = 65535
	for text, last := range map[string]int{
		strings.Repeat(" ", most):                         1,
		strings.Repeat("\n", most):                        most + 1,
		strings.Repeat("\r\n", most/2) + "\r":             most/2 + 2,
		"--" + strings.Repeat("-", most-2):                1,
		"--[[" + strings.Repeat("\n", most-6) + "]]":      most - 5,
		strings.Repeat("[[]]", most/4) + "   ":            1,
		"\"" + strings.Repeat("\\\n", (most-2)/2) + " \"": 1 + (most-2)/2,
		strings.Repeat("0", most):                         1,
		"0x" + strings.Repeat("f", most-2):                1,
		strings.Repeat("a ", most/2) + "a":                1,
		strings.Repeat(";", most):                         1,
		"[" + strings.Repeat("=", most/2-2) + "[]" + "]":  0,
		strings.Repeat("[=[]]", most/5):                   0,
		"'" + strings.Repeat("\\z", most/2-1) + "' ":      1,
	} {
		if len(text) > most {
			t.Fatalf("a text of %d bytes", len(text))
		}
		got, fault := lex.Tokens(text)
		if last == 0 {
			if fault != (api.Fault{Err: api.ErrToken, Line: 1}) || len(got) != 0 {
				t.Errorf("Tokens(%s): %v", show(text), fault)
			}
			continue
		}
		if fault != (api.Fault{}) || got[len(got)-1] != end(last) {
			t.Errorf("Tokens(%s): %v, and no end on line %d", show(text), fault, last)
		}
		more := text + strings.Repeat(" ", most+1-len(text))
		wantFault(t, more, api.ErrLong, 0)
		wantFault(t, more+text, api.ErrLong, 0)
	}
	// The length counts ahead of all that is in the text.
	wantFault(t, strings.Repeat("@", most), api.ErrToken, 1)
	wantFault(t, strings.Repeat("@", most+1), api.ErrLong, 0)
	wantFault(t, "/"+strings.Repeat(" ", most), api.ErrLong, 0)
	got, _ := lex.Tokens(strings.Repeat(";", most))
	if len(got) != most+1 {
		t.Errorf("%d tokens, want %d", len(got), most+1)
	}
}

// P4.2: all kinds of parts, run together.
func TestTokensByTheWords(t *testing.T) {
	parts := append(strings.Fields(allSigns), "and", "end", "x", "_1", "5", "0x1F", "1e", ".5", "'a'", "\"", "[[b]]", "[=[", "]=]", "--", "--[[", "]]", "\n", "\r\n", "\\", " ", "\t", "/", "^", "@", "\xff")
	right := 0
	someTexts(parts, 9, func(s string) {
		if _, fault := told(s); fault == (api.Fault{}) {
			right++
		}
		checkTold(t, s)
	})
	if right < 20000 {
		t.Errorf("only %d of the texts have tokens", right)
	}
}

// P4.3: what follows, of the tokens' texts as they stand in the text, and of other texts that say the same.

// cut answers the texts of the tokens of a text, up to its first fault.
func cut(text string) []string {
	var out []string
	for text != "" {
		token, length, err := toldNext(text)
		if err != api.OK {
			return out
		}
		if token.Kind != 0 {
			out = append(out, text[:length])
		}
		text = text[length:]
	}
	return out
}

// withoutLines answers the tokens of text, each of no line.
func withoutLines(text string) ([]api.Token, api.Fault) {
	tokens, fault := lex.Tokens(text)
	for i := range tokens {
		tokens[i].Line = 0
	}
	return tokens, fault
}

// written answers the text of a token.
func written(token api.Token) string {
	switch {
	case token.Kind == api.TStr:
		return texts.Quote(token.S)
	case token.Kind == api.TInt && token.N < 0:
		return "0x" + strconv.FormatUint(uint64(token.N), 16)
	case token.Kind == api.TInt:
		return ints.Text(token.N)
	}
	return token.S
}

func TestTokensOfTokens(t *testing.T) {
	some := append(strings.Fields(allSigns+" "+words), "x", "end_", "5", "0xffffffffffffffff", "0x8000000000000000", "9223372036854775807", "'a'", "'\\n\\0\\xff'", "'\\\r\n\\z \n'", "[[\n\nb]]", "[=[\"\r]]]=]", "--\n", "--[[\n]]", " ", "\r\n")
	count := 0
	someTexts(some, 12, func(s string) {
		tokens, fault := withoutLines(s)
		if fault != (api.Fault{}) {
			return
		}
		count++
		var others []string
		for _, token := range tokens {
			others = append(others, written(token))
		}
		for _, pieces := range [][]string{cut(s), others} {
			for _, between := range []string{" ", "\n", "\r", "\t\v\f", " --x\n", " --[[\n]]"} {
				again := strings.Join(pieces, between)
				if got, fault := withoutLines(again); fault != (api.Fault{}) || !slices.Equal(got, tokens) {
					t.Fatalf("Tokens(%s) = %v %v, want %v", show(again), got, fault, tokens)
				}
			}
		}
	})
	if count < 20000 {
		t.Errorf("only %d of the texts have tokens", count)
	}
}
