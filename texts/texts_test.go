package texts_test

import (
	"bytes"
	"math/rand"
	"regexp"
	"strconv"
	"strings"
	"testing"

	"twinstep/api"
	"twinstep/runes"
	"twinstep/texts"
)

func wantSaid(t *testing.T, literal, want string) {
	t.Helper()
	if got, err := texts.Unquote(literal); got != want || err != api.OK {
		t.Errorf("Unquote(%q) = %q %d, want %q", literal, got, err, want)
	}
}

func wantRefused(t *testing.T, literal string) {
	t.Helper()
	if got, err := texts.Unquote(literal); got != "" || err != api.ErrToken {
		t.Errorf("Unquote(%q) = %q %d, want ErrToken", literal, got, err)
	}
}

// someTexts hands over texts of up to most bytes of the alphabet: all of those of up to three, and as many again by lot, the same ones each time.
func someTexts(alphabet string, most int, check func(s string)) {
	var all func(s string, left int)
	all = func(s string, left int) {
		check(s)
		for i := 0; i < len(alphabet) && left > 0; i++ {
			all(s+alphabet[i:i+1], left-1)
		}
	}
	all("", 3)
	lot := rand.New(rand.NewSource(3))
	for range 40000 {
		s := make([]byte, 4+lot.Intn(most-3))
		for i := range s {
			s[i] = alphabet[lot.Intn(len(alphabet))]
		}
		check(string(s))
	}
}

// P3.1: every byte, alone and with a digit behind it; texts.

// quoted answers what Quote answers for a byte, between the quotes.
func quoted(b byte) string {
	switch {
	case b == '"':
		return "\\\""
	case b == '\\':
		return "\\\\"
	case b == '\n':
		return "\\n"
	case b < 32 || b > 126:
		return "\\" + strconv.Itoa(1000 + int(b))[1:]
	}
	return string([]byte{b})
}

func TestQuoteOfEveryByte(t *testing.T) {
	every := ""
	want := ""
	for n := range 256 {
		b := byte(n)
		every += string([]byte{b})
		want += quoted(b)
		for _, behind := range []string{"", "0", "9", "a", "\n"} {
			s := string([]byte{b}) + behind
			said := "\"" + quoted(b) + strings.ReplaceAll(behind, "\n", "\\n") + "\""
			if got := texts.Quote(s); got != said {
				t.Errorf("Quote(%q) = %s, want %s", s, got, said)
			}
		}
	}
	if got := texts.Quote(every); got != "\""+want+"\"" {
		t.Errorf("Quote of every byte = %s, want %s", got, want)
	}
}

func TestQuote(t *testing.T) {
	for s, want := range map[string]string{
		"":              `""`,
		"a\"b\n\x00":    `"a\"b\n\000"`,
		"it's":          `"it's"`,
		"\x001":         `"\0001"`,
		"\\n":           `"\\n"`,
		"\\\"":          `"\\\""`,
		"\r\n\t":        `"\013\n\009"`,
		" ~\x7f\x1f":    `" ~\127\031"`,
		"\xc3\xa4":      `"\195\164"`,
		"\xff\xfe\x80!": `"\255\254\128!"`,
		"\a\b\f\v":      `"\007\008\012\011"`,
	} {
		if got := texts.Quote(s); got != want {
			t.Errorf("Quote(%q) = %s, want %s", s, got, want)
		}
	}
}

// P3.2: both kinds of quotes, and bytes that stand for themselves.

func TestUnquoteOfQuotes(t *testing.T) {
	wantSaid(t, `""`, "")
	wantSaid(t, `''`, "")
	wantSaid(t, `"'"`, "'")
	wantSaid(t, `'"'`, `"`)
	wantSaid(t, `"it's"`, "it's")
	wantSaid(t, `'"a" "b"'`, `"a" "b"`)
	wantSaid(t, `"\""`, `"`)
	wantSaid(t, `'\''`, `'`)
	wantSaid(t, `"\'"`, `'`)
	wantSaid(t, `'\"'`, `"`)
	wantSaid(t, `"\\"`, `\`)
	wantSaid(t, `'\\\''`, `\'`)
	wantSaid(t, `"--[[ ]] // ..."`, "--[[ ]] // ...")
	for _, literal := range []string{
		``, `"`, `'`, `a`, `a"`, `"a`, `'a`, `"a'`, `'a"`, `"""`, `'''`, `""a`, `"a" `, ` "a"`, `"a""`, `"a""b"`, `""""`, `"a"b"`, `'a''b'`,
		"`a`", `[[a]]`, `\"a\"`, "\"a\"\n", "\"a\"\x00", `a"b"`, `34`,
	} {
		wantRefused(t, literal)
	}
}

func TestUnquoteOfEveryByte(t *testing.T) {
	for n := range 256 {
		b := string([]byte{byte(n)})
		for _, quote := range []string{"\"", "'"} {
			literal := quote + "a" + b + "a" + quote
			if b == quote || strings.Contains("\\\n\r", b) {
				// A backslash has an a behind it here: that one may stand.
				if b != "\\" {
					wantRefused(t, literal)
				}
				continue
			}
			wantSaid(t, literal, "a"+b+"a")
		}
	}
	wantRefused(t, "\"a\r\nb\"")
	wantRefused(t, "\"\n\"")
	wantRefused(t, "'\r'")
}

// P3.2: every byte behind a backslash.

func TestUnquoteOfEveryByteBehindABackslash(t *testing.T) {
	says := map[byte]string{
		'a': "\x07", 'b': "\x08", 'f': "\x0c", 'n': "\x0a", 'r': "\x0d", 't': "\x09", 'v': "\x0b",
		'\\': "\\", '"': "\"", '\'': "'", '\n': "\n", '\r': "\n", 'z': "",
	}
	for d := range 10 {
		says['0'+byte(d)] = string([]byte{byte(d)})
	}
	for n := range 256 {
		b := byte(n)
		for _, quote := range []string{"\"", "'"} {
			for _, behind := range []string{"", "-", "{}"} {
				literal := quote + "-\\" + string([]byte{b}) + behind + quote
				want, may := says[b]
				if may {
					wantSaid(t, literal, "-"+want+behind)
				} else {
					wantRefused(t, literal)
				}
			}
		}
	}
}

func TestUnquoteOfABackslashAtTheEnd(t *testing.T) {
	for _, literal := range []string{`"\`, `'\`, `"\"`, `'\'`, `"a\`, `"a\"`, `"\\\"`, `"\\\`, `\`, `"a"\`, `"a\'`} {
		wantRefused(t, literal)
	}
}

// P3.2: a line's end behind a backslash.

func TestUnquoteOfLineEnds(t *testing.T) {
	for within, want := range map[string]string{
		"\\\n": "\n", "\\\r": "\n", "\\\r\n": "\n", "\\\n\r": "\n",
		"a\\\r\nb": "a\nb", "a\\\n\rb": "a\nb", "\\\n\\\n": "\n\n", "\\\r\\\n": "\n\n", "\\\n\\\r": "\n\n", "\\\r\n\\\n\r": "\n\n",
		"\\\n n": "\n n", "\\\n\t\v\f": "\n\t\v\f",
	} {
		wantSaid(t, "\""+within+"\"", want)
		wantSaid(t, "'"+within+"'", want)
	}
	for _, within := range []string{"\\\n\n", "\\\r\r", "\\\r\n\r", "\\\r\n\n", "\\\n\r\n", "\\\n\r\r", "\n\\\r", "\\n\n", "\\\\\n"} {
		wantRefused(t, "\""+within+"\"")
	}
}

// P3.2: z and blanks.

func TestUnquoteOfBlanks(t *testing.T) {
	for within, want := range map[string]string{
		`\z`: "", `a\z`: "a", `\za`: "a", `\z a`: "a", `\z  D`: "D", `\zz`: "z", `\z\z`: "", `\z \z a`: "a", `\z\32a`: " a", `\z \n `: "\n ",
		"\\z\n": "", "a\\z \t\n\v\f\r  b c": "ab c", "\\z\r\n\r\n\n\n a": "a", "\\z\n\\\n": "\n", "a\\z\x08b": "a\x08b", "a\\z\x0eb": "a\x0eb", "a\\z\xa0b": "a\xa0b",
		"\\\nz": "\nz", `\\z a`: `\z a`,
	} {
		wantSaid(t, "\""+within+"\"", want)
		wantSaid(t, "'"+within+"'", want)
	}
	for _, literal := range []string{`"\z`, `"\z  `, "\"\\z\n", "\"\\z a\n\"", "\"\\z \" ", `"\Z"`} {
		wantRefused(t, literal)
	}
}

// P3.2: x and two hex digits.

func TestUnquoteOfHexBytes(t *testing.T) {
	lower, upper := "0123456789abcdef", "0123456789ABCDEF"
	for n := range 256 {
		want := string([]byte{byte(n)})
		high, low := n>>4, n&15
		wantSaid(t, `"\x`+lower[high:high+1]+lower[low:low+1]+`"`, want)
		wantSaid(t, `'\x`+upper[high:high+1]+lower[low:low+1]+`'`, want)
		wantSaid(t, `"\x`+upper[high:high+1]+upper[low:low+1]+`f"`, want+"f")
	}
	for _, literal := range []string{
		`"\x"`, `"\x4"`, `"\xg0"`, `"\x0g"`, `"\x4 "`, `"\x 4"`, `"\x`, `"\x4`, `"\x42`, `'\x''`, `"\x""`, `"\x4\x"`, `"\X42"`, `"\x{42}"`, `"\x+1"`, `"\x-1"`,
	} {
		wantRefused(t, literal)
	}
}

// P3.2: one to three digits.

func TestUnquoteOfDigits(t *testing.T) {
	for n := range 1000 {
		spellings := []string{strconv.Itoa(1000 + n)[1:]}
		if n < 100 {
			spellings = append(spellings, strconv.Itoa(100 + n)[1:])
		}
		if n < 10 {
			spellings = append(spellings, strconv.Itoa(n))
		}
		for _, digits := range spellings {
			literal := `"\` + digits + `x"`
			if n > 255 {
				wantRefused(t, literal)
				wantRefused(t, `'\`+digits+`'`)
				continue
			}
			wantSaid(t, literal, string([]byte{byte(n), 'x'}))
			wantSaid(t, `'\`+digits+`'`, string([]byte{byte(n)}))
			for _, behind := range []string{"0", "5", "9"} {
				if len(digits) == 3 {
					wantSaid(t, `"\`+digits+behind+`"`, string([]byte{byte(n)})+behind)
				}
			}
		}
	}
	wantSaid(t, `"\1\2\3"`, "\x01\x02\x03")
	wantSaid(t, `"\0651"`, "A1")
	wantSaid(t, `"\65\065"`, "AA")
	wantSaid(t, `"\2550"`, "\xff0")
	wantSaid(t, `"\9a"`, "\x09a")
	wantSaid(t, `"\1-1"`, "\x01-1")
	for _, literal := range []string{`"\256"`, `"\2560"`, `"\300"`, `"\999"`, `"\25`, `"\256a"`, `"\-1"`, `"\+1"`} {
		wantRefused(t, literal)
	}
}

// P3.2: u and a number in braces.

func TestUnquoteOfCharacters(t *testing.T) {
	for _, n := range []int64{
		0, 1, 9, 10, 0x41, 0x43, 1<<7 - 1, 1 << 7, 228, 1<<11 - 1, 1 << 11, 8364, 55295, 55296, 57343, 57344, 65533, 1<<16 - 1, 1 << 16,
		1114111, 1114112, 1<<21 - 1, 1 << 21, 1<<26 - 1, 1 << 26, 1 << 30, 1<<31 - 1,
	} {
		want, _ := runes.Encode(n)
		digits := strconv.FormatInt(n, 16)
		for _, spelling := range []string{digits, strings.ToUpper(digits), "0" + digits, strings.Repeat("0", 8) + digits, strings.Repeat("0", 1000) + digits} {
			wantSaid(t, `"\u{`+spelling+`}"`, want)
			wantSaid(t, `'-\u{`+spelling+`}1'`, "-"+want+"1")
		}
	}
	wantSaid(t, `"\u{7FFFFFFF}"`, "\xfd\xbf\xbf\xbf\xbf\xbf")
	wantSaid(t, `"\u{7fffffff}\u{7F}"`, "\xfd\xbf\xbf\xbf\xbf\xbf\x7f")
	wantSaid(t, `"\u{43}}"`, "C}")
}

func TestUnquoteRefusesCharacters(t *testing.T) {
	// Numbers that come round to small ones in 32 or 64 bits are too great all the same.
	for _, digits := range []string{
		"80000000", "080000000", "80000001", "FFFFFFFF", "ffffffff", "100000000", "100000041", "7FFFFFFFF", "7FFFFFFF0",
		"7FFFFFFFFFFFFFFF", "8000000000000000", "FFFFFFFFFFFFFFFF", "10000000000000000", "10000000000000041", "1" + strings.Repeat("0", 16) + "41",
		"1" + strings.Repeat("0", 32), "1" + strings.Repeat("0", 64) + "41", strings.Repeat("f", 1000), strings.Repeat("0", 1000) + "80000000",
	} {
		wantRefused(t, `"\u{`+digits+`}"`)
		wantRefused(t, `'a\u{`+digits+`}b'`)
	}
	for _, literal := range []string{
		`"\u"`, `"\u41"`, `"\u0041"`, `"\u{"`, `"\u{}"`, `"\u{41"`, `"\u}"`, `"\u41}"`, `"\u(41)"`, `"\u{g}"`, `"\u{4g}"`, `"\u{ 41}"`, `"\u{41 }"`, `"\u {41}"`,
		`"\u{-1}"`, `"\u{+1}"`, `"\u{0x41}"`, `"\u{4,1}"`, `"\u{{41}}"`, `"\u`, `"\u{`, `"\u{41`, `"\u{41}`, `'\u{41'}'`, `"\U{41}"`, "\"\\u{4\n1}\"",
	} {
		wantRefused(t, literal)
	}
}

func TestUnquoteOfAll(t *testing.T) {
	wantSaid(t, `'\65\x42\u{43}\z  D'`, "ABCD")
	wantSaid(t, "\"\\z \n \\097\\x62\\z\r\n\\u{0063}\\\r\n\\\"'\\\\\"", "abc\n\"'\\")
	wantRefused(t, `"\q"`)
}

// part is what one part may be, by the chapter's words, quotes aside; the first of several that fit counts.
var part = regexp.MustCompile(`^(?s:\\\r\n|\\\n\r|\\[\r\n]|\\z[\x09-\x0d ]*|\\x[0-9A-Fa-f][0-9A-Fa-f]|\\[0-9][0-9]?[0-9]?|\\u\{[0-9A-Fa-f]+\}|\\[abfnrtv\\"']|[^\\\r\n])`)

// told answers what Unquote should, part by part.
func told(s string) (string, bool) {
	if s == "" || s[0] != '"' && s[0] != '\'' {
		return "", false
	}
	said, rest := "", s[1:]
	for rest != "" && rest[0] != s[0] {
		p := part.FindString(rest)
		if p == "" {
			return "", false
		}
		one, ok := toldPart(p)
		if !ok {
			return "", false
		}
		said, rest = said+one, rest[len(p):]
	}
	if rest != s[:1] {
		return "", false
	}
	return said, true
}

func toldPart(p string) (string, bool) {
	if p[0] != '\\' {
		return p, true
	}
	switch b := p[1]; {
	case b == '\n' || b == '\r':
		return "\n", true
	case b == 'z':
		return "", true
	case b == 'x':
		n, err := strconv.ParseUint(p[2:], 16, 8)
		return string([]byte{byte(n)}), err == nil
	case b == 'u':
		n, err := strconv.ParseUint(p[3:len(p)-1], 16, 31)
		said, _ := runes.Encode(int64(n))
		return said, err == nil
	case '0' <= b && b <= '9':
		n, err := strconv.ParseUint(p[1:], 10, 8)
		return string([]byte{byte(n)}), err == nil
	}
	said, _, _, err := strconv.UnquoteChar(p, 0)
	if p == `\"` || p == `\'` {
		return p[1:], true
	}
	return string(said), err == nil
}

func checkTold(t *testing.T, s string) {
	t.Helper()
	want, may := told(s)
	got, err := texts.Unquote(s)
	if got != want || (err == api.OK) != may || !may && err != api.ErrToken {
		t.Fatalf("Unquote(%q) = %q %d, want %q %v", s, got, err, want, may)
	}
}

func TestUnquoteByTheWords(t *testing.T) {
	right := 0
	someTexts("\"'\\\n\rzxu{}0257fa \xff", 14, func(s string) {
		if _, may := told("\"" + s + "\""); may {
			right++
		}
		checkTold(t, s)
		checkTold(t, "\""+s+"\"")
		checkTold(t, "'"+s+"'")
	})
	if right < 2000 {
		t.Errorf("only %d of the texts are literals", right)
	}
	// Where more of them are right: what stands behind a backslash.
	someTexts("0257f}\"\n\r z", 12, func(s string) {
		for _, ahead := range []string{"\\", "\\x", "\\u{", "\\z", "\\2"} {
			checkTold(t, "\""+ahead+s+"\"")
			checkTold(t, "\""+ahead+s+"}\"")
		}
	})
}

// R1: literals that are long, and such that do not end, are gone through once.
func TestUnquoteOfLongLiterals(t *testing.T) {
	const many = 1 << 20
	wantLong := func(literal, want string) {
		t.Helper()
		if got, err := texts.Unquote(literal); got != want || err != api.OK {
			t.Errorf("Unquote of %d bytes: %d bytes %d, want %d bytes", len(literal), len(got), err, len(want))
		}
	}
	wantLong("\""+strings.Repeat("\\z \n", many)+"\"", "")
	wantLong("\"\\z"+strings.Repeat("\n", many)+"\"", "")
	wantLong("\""+strings.Repeat("\\255", many)+"\"", strings.Repeat("\xff", many))
	wantLong("\"\\u{"+strings.Repeat("0", many)+"41}\"", "A")
	wantLong("'"+strings.Repeat("\"", many)+"'", strings.Repeat("\"", many))
	for _, within := range []string{"\\u{0", "\\u{f", "\\z ", "\\", "a", "\\x4"} {
		if _, err := texts.Unquote("\"" + strings.Repeat(within, many)); err != api.ErrToken {
			t.Errorf("many %q: %d, want ErrToken", within, err)
		}
	}
}

// P3.3: what differs first, what begins another, bytes above 127.

func TestCompare(t *testing.T) {
	for _, c := range []struct {
		a, b string
		want int
	}{
		{"", "", 0}, {"a", "a", 0}, {"\x00", "\x00", 0}, {"abc", "abc", 0},
		{"", "a", -1}, {"", "\x00", -1}, {"a", "ab", -1}, {"a", "a\x00", -1}, {"ab", "abb", -1}, {"\xff", "\xff\x00", -1},
		{"b", "ab", 1}, {"a", "b", -1}, {"ab", "b", -1}, {"abz", "acz", -1}, {"az", "bcd", -1}, {"a\x00z", "a\x01", -1},
		{"B", "a", -1}, {"10", "9", -1}, {" a", "a", -1},
		{"\x7f", "\x80", -1}, {"a", "\x80", -1}, {"a\x7f", "a\xff", -1}, {"\x00", "\xff", -1}, {"\x80", "\xff", -1}, {"\xfe\xff", "\xff", -1},
		{"z", "\xc3\xa4", -1}, {"\xc3\xa4", "\xe2\x82\xac", -1}, {"\xef\xbf\xbd", "\xf0\x9f\x98\x80", -1}, {"a\xc3\xa4", "a\xc3\xa5", -1},
	} {
		if got := texts.Compare(c.a, c.b); got != c.want {
			t.Errorf("Compare(%q, %q) = %d, want %d", c.a, c.b, got, c.want)
		}
		if got := texts.Compare(c.b, c.a); got != -c.want {
			t.Errorf("Compare(%q, %q) = %d, want %d", c.b, c.a, got, -c.want)
		}
	}
}

func TestCompareOfEveryTwoBytes(t *testing.T) {
	for a := range 256 {
		for b := range 256 {
			want := 0
			if a < b {
				want = -1
			} else if a > b {
				want = 1
			}
			x, y := string([]byte{'-', byte(a)}), string([]byte{'-', byte(b)})
			if got := texts.Compare(x, y); got != want {
				t.Fatalf("Compare(%q, %q) = %d, want %d", x, y, got, want)
			}
			// The first byte that differs counts, not what is behind it, nor how long either is.
			if got := texts.Compare(x+"\xff\xff", y); a != b && got != want {
				t.Fatalf("Compare(%q, %q) = %d, want %d", x+"\xff\xff", y, got, want)
			}
		}
	}
}

// P3.4: brackets that meet the closing ones, ends, a byte 13.

func TestLong(t *testing.T) {
	for s, k := range map[string]int{
		"": 0, "x": 0, "\n": 0, "\nx": 0, "[": 0, "[[": 0, "[[x": 0, "=": 0, "==]": 1, "a\x00\xff\"'\\": 0,
		"a]]b": 1, "x]": 1, "]": 1, "]]": 1, "]]]": 1, "] ]": 1, "]a]": 1,
		"x]=": 0, "x]==": 0, "]=": 0, "]==": 0, "]=]": 2, "a]=]b": 0, "a]=]b]": 2, "a]=]b]=": 0, "a]]b]=": 2, "a]]b]==": 1,
		"]]]=": 2, "]] ]=] ]==]": 3, "]] ]==]": 1, "]]a]=]a]==]a": 3, "]]=]==]": 3, "]]=]==]=": 3, "]]=]==": 3, "]=]==]===": 0,
		"]=] ]=] ]] ]] ]===]": 2, "]=a]": 1, "]=\n]": 1, "]=[=]": 1, "]=====]": 1, "a]=====]a": 0,
	} {
		equals := strings.Repeat("=", k)
		want := "[" + equals + "[\n" + s + "]" + equals + "]"
		if got, ok := texts.Long(s); got != want || !ok {
			t.Errorf("Long(%q) = %q %v, want %q", s, got, ok, want)
		}
	}
}

func TestLongRefusesAByte13(t *testing.T) {
	for _, s := range []string{"\r", "a\r", "\ra", "a\rb", "\r\n", "\n\r", "]]\r]=]", strings.Repeat("a", 1000) + "\r"} {
		if got, ok := texts.Long(s); got != "" || ok {
			t.Errorf("Long(%q) = %q %v, want false", s, got, ok)
		}
	}
}

func TestLongOfEveryByte(t *testing.T) {
	for n := range 256 {
		s := string([]byte{byte(n)})
		got, ok := texts.Long(s)
		switch s {
		case "\r":
			s = ""
		case "]":
			s = "[=[\n]]=]"
		default:
			s = "[[\n" + s + "]]"
		}
		if got != s || ok != (s != "") {
			t.Errorf("Long(byte %d) = %q %v, want %q", n, got, ok, s)
		}
	}
}

func TestLongByTheWords(t *testing.T) {
	someTexts("]=[a", 30, func(s string) {
		k := 0
		for strings.Contains(s+"]", "]"+strings.Repeat("=", k)+"]") {
			k++
		}
		equals := strings.Repeat("=", k)
		got, ok := texts.Long(s)
		if want := "[" + equals + "[\n" + s + "]" + equals + "]"; got != want || !ok {
			t.Fatalf("Long(%q) = %q %v, want %q", s, got, ok, want)
		}
		// The first closing bracket of that kind is the one at the end.
		if strings.Index(got, "]"+equals+"]") != len(got)-k-2 {
			t.Fatalf("Long(%q) = %q closes early", s, got)
		}
	})
}

// R1: many kinds of brackets are found in one go.
func TestLongOfManyBrackets(t *testing.T) {
	var s strings.Builder
	for k := range 3000 {
		s.WriteString("]" + strings.Repeat("=", k))
	}
	for ending, k := range map[string]int{"": 3000, "]": 3000, "=": 2999} {
		got, ok := texts.Long(s.String() + ending)
		if !ok || !strings.HasPrefix(got, "["+strings.Repeat("=", k)+"[\n") {
			t.Errorf("Long of many brackets and %q: %v", ending, ok)
		}
	}
	brackets := strings.Repeat("]", 1<<20)
	if got, ok := texts.Long(brackets); got != "[=[\n"+brackets+"]=]" || !ok {
		t.Errorf("Long of 2^20 brackets: %v", ok)
	}
}

// P3.5: what follows.

func checkBack(t *testing.T, s string) {
	t.Helper()
	if got, err := texts.Unquote(texts.Quote(s)); got != s || err != api.OK {
		t.Fatalf("Unquote(Quote(%q)) = %q %d", s, got, err)
	}
}

func TestUnquoteOfQuote(t *testing.T) {
	for a := range 256 {
		checkBack(t, string([]byte{byte(a)}))
		for b := range 256 {
			checkBack(t, string([]byte{byte(a), byte(b)}))
		}
	}
	someTexts("\"'\\\n\r\x00\xff09nzxu{} ", 20, func(s string) { checkBack(t, s) })
	lot := rand.New(rand.NewSource(5))
	for range 200 {
		s := make([]byte, lot.Intn(2000))
		lot.Read(s)
		checkBack(t, string(s))
	}
}

// P3.1: what Quote answers has no bytes but those from 32 to 126.
func TestQuoteIsPlain(t *testing.T) {
	s := make([]byte, 5000)
	rand.New(rand.NewSource(7)).Read(s)
	if i := bytes.IndexFunc([]byte(texts.Quote(string(s))), func(r rune) bool { return r < 32 || r > 126 }); i >= 0 {
		t.Errorf("a byte at %d is none from 32 to 126", i)
	}
}
