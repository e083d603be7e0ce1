package runes_test

import (
	"slices"
	"strings"
	"testing"

	"twinstep/api"
	"twinstep/runes"
)

const replaced = 65533

// P1.1: the classes, asked of every byte there is.

func TestClassesOfAllBytes(t *testing.T) {
	const letters = "ABCDEFGHIJKLMNOPQRSTUVWXYZabcdefghijklmnopqrstuvwxyz_"
	for n := range 256 {
		b := byte(n)
		if got, want := runes.Letter(b), strings.IndexByte(letters, b) >= 0; got != want {
			t.Errorf("Letter(%d) = %v", n, got)
		}
		if got, want := runes.Digit(b), strings.IndexByte("0123456789", b) >= 0; got != want {
			t.Errorf("Digit(%d) = %v", n, got)
		}
		if got, want := runes.Space(b), strings.IndexByte("\t\n\v\f\r ", b) >= 0; got != want {
			t.Errorf("Space(%d) = %v", n, got)
		}
	}
}

func TestHexOfAllBytes(t *testing.T) {
	worth := map[byte]int{}
	for i, b := range []byte("0123456789abcdef") {
		worth[b] = i
	}
	for i, b := range []byte("ABCDEF") {
		worth[b] = 10 + i
	}
	for n := range 256 {
		want, is := worth[byte(n)]
		if got, ok := runes.Hex(byte(n)); got != want || ok != is {
			t.Errorf("Hex(%d) = %d %v, want %d %v", n, got, ok, want, is)
		}
	}
}

// P1.2: the examples, the bounds between one byte and six, surrogates, numbers above 1114111.

func TestEncode(t *testing.T) {
	for _, c := range []struct {
		n    int64
		want string
	}{
		{0, "\x00"}, {1, "\x01"}, {65, "A"}, {1<<7 - 1, "\x7f"},
		{1 << 7, "\xc2\x80"}, {228, "\xc3\xa4"}, {1<<11 - 1, "\xdf\xbf"},
		{1 << 11, "\xe0\xa0\x80"}, {8364, "\xe2\x82\xac"}, {replaced, "\xef\xbf\xbd"}, {1<<16 - 1, "\xef\xbf\xbf"},
		{55295, "\xed\x9f\xbf"}, {55296, "\xed\xa0\x80"}, {57343, "\xed\xbf\xbf"}, {57344, "\xee\x80\x80"},
		{1 << 16, "\xf0\x90\x80\x80"}, {1114111, "\xf4\x8f\xbf\xbf"}, {1114112, "\xf4\x90\x80\x80"}, {1<<21 - 1, "\xf7\xbf\xbf\xbf"},
		{1 << 21, "\xf8\x88\x80\x80\x80"}, {1<<26 - 1, "\xfb\xbf\xbf\xbf\xbf"},
		{1 << 26, "\xfc\x84\x80\x80\x80\x80"}, {1 << 30, "\xfd\x80\x80\x80\x80\x80"}, {1<<31 - 1, "\xfd\xbf\xbf\xbf\xbf\xbf"},
	} {
		if got, err := runes.Encode(c.n); got != c.want || err != api.OK {
			t.Errorf("Encode(%d) = %x %d, want %x", c.n, got, err, c.want)
		}
	}
}

func TestEncodeRefuses(t *testing.T) {
	for _, n := range []int64{-1, -2, -128, -1 << 31, -1 << 63, 1 << 31, 1<<31 + 1, 1 << 32, 1<<32 + 65, 1<<63 - 1} {
		if got, err := runes.Encode(n); got != "" || err != api.ErrRune {
			t.Errorf("Encode(%d) = %x %d, want ErrRune", n, got, err)
		}
	}
}

// bitsOf reads a text as the promise says that a number is written: the length that the first byte tells, and the bits put together.
func bitsOf(t *testing.T, s string) int64 {
	t.Helper()
	first := s[0]
	if first < 0x80 && len(s) == 1 {
		return int64(first)
	}
	ones := 0
	for first&(0x80>>ones) != 0 {
		ones++
	}
	if ones != len(s) || ones < 2 || ones > 6 {
		t.Fatalf("%x: the first byte tells %d bytes", s, ones)
	}
	n := int64(first & (0x7f >> ones))
	for _, b := range []byte(s[1:]) {
		if b>>6 != 2 {
			t.Fatalf("%x: the byte %x does not go on", s, b)
		}
		n = n<<6 | int64(b&0x3f)
	}
	return n
}

func TestEncodeKeepsItsBits(t *testing.T) {
	for n := int64(0); n < 1<<31; n += 1 + n/1000 {
		length := 1
		for length < 6 && n >= []int64{1 << 7, 1 << 11, 1 << 16, 1 << 21, 1 << 26}[length-1] {
			length++
		}
		s, err := runes.Encode(n)
		if err != api.OK || len(s) != length {
			t.Fatalf("Encode(%d) = %x %d, want %d bytes", n, s, err, length)
		}
		if got := bitsOf(t, s); got != n {
			t.Fatalf("Encode(%d) = %x, which says %d", n, s, got)
		}
	}
}

// P1.3: the examples, bytes that are too many or too few, and the promise's own words tried on many texts.

func TestEach(t *testing.T) {
	for _, c := range []struct {
		s     string
		chars []rune
		at    []int
		valid bool
	}{
		{"", nil, nil, true},
		{"a\xc3\xa4b", []rune{97, 228, 98}, []int{0, 1, 3}, true},
		{"\x00\x7f", []rune{0, 127}, []int{0, 1}, true},
		{"\xe2\x82\xac\xf0\x9f\x98\x80.", []rune{8364, 128512, '.'}, []int{0, 3, 7}, true},
		{"\xed\x9f\xbf\xee\x80\x80", []rune{55295, 57344}, []int{0, 3}, true},
		{"\xf4\x8f\xbf\xbf", []rune{1114111}, []int{0}, true},
		// The character 65533 itself is no fault, but a part of it is.
		{"\xef\xbf\xbd", []rune{replaced}, []int{0}, true},
		{"a\xef\xbf\xbd\xef\xbf\xbd", []rune{97, replaced, replaced}, []int{0, 1, 4}, true},
		{"\xef\xbf", []rune{replaced, replaced}, []int{0, 1}, false},
		{"\xef\xbf\xbd\xff", []rune{replaced, replaced}, []int{0, 3}, false},
		{"\xff\xef\xbf\xbd", []rune{replaced, replaced}, []int{0, 1}, false},
		// Too few bytes.
		{"\xc3", []rune{replaced}, []int{0}, false},
		{"\xc3a", []rune{replaced, 97}, []int{0, 1}, false},
		{"\xe2\x82", []rune{replaced, replaced}, []int{0, 1}, false},
		{"\xe2\x82a", []rune{replaced, replaced, 97}, []int{0, 1, 2}, false},
		{"\xe2\xc3\xa4", []rune{replaced, 228}, []int{0, 1}, false},
		{"\xf0\x9f\x98", []rune{replaced, replaced, replaced}, []int{0, 1, 2}, false},
		{"\xf0\x9f\x98\xf0\x9f\x98\x80", []rune{replaced, replaced, replaced, 128512}, []int{0, 1, 2, 3}, false},
		// Too many bytes, or none that may begin a character.
		{"\x80", []rune{replaced}, []int{0}, false},
		{"a\xbf", []rune{97, replaced}, []int{0, 1}, false},
		{"\xc3\xa4\xa4", []rune{228, replaced}, []int{0, 2}, false},
		{"\xe2\x82\xac\x80", []rune{8364, replaced}, []int{0, 3}, false},
		{"\xfe\xff", []rune{replaced, replaced}, []int{0, 1}, false},
		// More bytes than the least.
		{"\xc0\x80", []rune{replaced, replaced}, []int{0, 1}, false},
		{"\xc1\xbf", []rune{replaced, replaced}, []int{0, 1}, false},
		{"\xe0\x9f\xbf", []rune{replaced, replaced, replaced}, []int{0, 1, 2}, false},
		{"\xf0\x8f\xbf\xbf", []rune{replaced, replaced, replaced, replaced}, []int{0, 1, 2, 3}, false},
		// Surrogates.
		{"\xed\xa0\x80", []rune{replaced, replaced, replaced}, []int{0, 1, 2}, false},
		{"\xed\xbf\xbf", []rune{replaced, replaced, replaced}, []int{0, 1, 2}, false},
		// Above 1114111.
		{"\xf4\x90\x80\x80", []rune{replaced, replaced, replaced, replaced}, []int{0, 1, 2, 3}, false},
		{"\xf8\x88\x80\x80\x80", []rune{replaced, replaced, replaced, replaced, replaced}, []int{0, 1, 2, 3, 4}, false},
		{"\xfd\xbf\xbf\xbf\xbf\xbf", slices.Repeat([]rune{replaced}, 6), []int{0, 1, 2, 3, 4, 5}, false},
	} {
		chars, at := runes.Each(c.s)
		if !slices.Equal(chars, c.chars) || !slices.Equal(at, c.at) {
			t.Errorf("Each(%x) = %v at %v, want %v at %v", c.s, chars, at, c.chars, c.at)
		}
		if got := runes.Valid(c.s); got != c.valid {
			t.Errorf("Valid(%x) = %v", c.s, got)
		}
	}
}

// begins answers the character that s begins with, by the promise's words: a number of which s begins with the Encode.
func begins(s string) (rune, int, bool) {
	for k := 1; k <= 4 && k <= len(s); k++ {
		n := int64(s[0])
		if k > 1 {
			n = int64(s[0] & (0x7f >> k))
		}
		for _, b := range []byte(s[1:k]) {
			n = n<<6 | int64(b&0x3f)
		}
		e, _ := runes.Encode(n)
		if e == s[:k] && (n < 55296 || n > 57343) && n <= 1114111 {
			return rune(n), k, true
		}
	}
	return replaced, 1, false
}

// told answers what Each and Valid should.
func told(s string) (chars []rune, at []int, valid bool) {
	valid = true
	for i := 0; i < len(s); {
		c, k, ok := begins(s[i:])
		chars, at, valid = append(chars, c), append(at, i), valid && ok
		i += k
	}
	return chars, at, valid
}

func checkTold(t *testing.T, s string) {
	t.Helper()
	wantChars, wantAt, wantValid := told(s)
	chars, at := runes.Each(s)
	if !slices.Equal(chars, wantChars) || !slices.Equal(at, wantAt) {
		t.Fatalf("Each(%x) = %v at %v, want %v at %v", s, chars, at, wantChars, wantAt)
	}
	if got := runes.Valid(s); got != wantValid {
		t.Fatalf("Valid(%x) = %v", s, got)
	}
}

func TestEachOfAllShortTexts(t *testing.T) {
	for a := range 256 {
		checkTold(t, string([]byte{byte(a)}))
		for b := range 256 {
			checkTold(t, string([]byte{byte(a), byte(b)}))
		}
	}
}

func TestEachAtTheBoundsOfBytes(t *testing.T) {
	bounds := []byte{0x00, 0x41, 0x7f, 0x80, 0x82, 0x8f, 0x90, 0x9f, 0xa0, 0xbf, 0xc0, 0xc1, 0xc2, 0xdf, 0xe0, 0xe1, 0xec, 0xed, 0xee, 0xef, 0xf0, 0xf1, 0xf3, 0xf4, 0xf5, 0xf7, 0xf8, 0xfb, 0xfc, 0xfd, 0xfe, 0xff}
	for _, a := range bounds {
		for _, b := range bounds {
			for _, c := range bounds {
				checkTold(t, string([]byte{a, b, c}))
				for _, d := range []byte{0x41, 0x7f, 0x80, 0xbf, 0xc0, 0xc3, 0xf4} {
					checkTold(t, string([]byte{a, b, c, d}))
				}
			}
		}
	}
}

// R3: what is handed out is new each time.
func TestEachIsNew(t *testing.T) {
	const s = "a\xc3\xa4b\xff"
	chars, at := runes.Each(s)
	for i := range chars {
		chars[i], at[i] = -1, -1
	}
	checkTold(t, s)
}

// P1.4: what follows.

func TestEachOfEncodeIsJustThat(t *testing.T) {
	for n := int64(0); n <= 1114111; n++ {
		surrogate := 55296 <= n && n <= 57343
		s, err := runes.Encode(n)
		if err != api.OK {
			t.Fatalf("Encode(%d): %d", n, err)
		}
		if got := runes.Valid(s); got == surrogate {
			t.Fatalf("Valid(Encode(%d)) = %v", n, got)
		}
		chars, at := runes.Each(s)
		just := slices.Equal(chars, []rune{rune(n)}) && slices.Equal(at, []int{0})
		if just == surrogate {
			t.Fatalf("Each(Encode(%d)) = %v at %v", n, chars, at)
		}
	}
}

func TestEncodeAboveIsNoCharacter(t *testing.T) {
	for n := int64(1114112); n < 1<<31; n += 1 + n/50 {
		s, _ := runes.Encode(n)
		chars, at := runes.Each(s)
		if len(chars) != len(s) || len(at) != len(s) || runes.Valid(s) {
			t.Fatalf("Each(Encode(%d)) = %v at %v", n, chars, at)
		}
	}
}

func TestTwoValidTextsOneBehindTheOther(t *testing.T) {
	valid := []string{"", "a", "\x00", "\xc3\xa4", "\xe2\x82\xac", "\xef\xbf\xbd", "\xf0\x9f\x98\x80", "a\xc3\xa4b", "\xf4\x8f\xbf\xbf\x7f", "\xed\x9f\xbf\xee\x80\x80"}
	for _, a := range valid {
		for _, b := range valid {
			chars, at := runes.Each(a)
			behind, behindAt := runes.Each(b)
			chars = append(chars, behind...)
			for _, i := range behindAt {
				at = append(at, len(a)+i)
			}
			got, gotAt := runes.Each(a + b)
			if !slices.Equal(got, chars) || !slices.Equal(gotAt, at) || !runes.Valid(a+b) {
				t.Errorf("Each(%x, %x) = %v at %v, want %v at %v", a, b, got, gotAt, chars, at)
			}
		}
	}
}
