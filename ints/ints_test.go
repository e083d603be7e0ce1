package ints_test

import (
	"math/big"
	"strconv"
	"strings"
	"testing"

	"twinstep/api"
	"twinstep/ints"
)

const (
	least    = -1 << 63
	greatest = 1<<63 - 1
)

// edges are numbers at which something changes: signs, ends, and sums, products and moves that go beyond.
var edges = []int64{
	least, least + 1, least + 2, least / 2, least/2 - 1, -1 << 32, -1<<32 - 1, -1<<31 - 1, -1 << 31, -1000003, -129, -128,
	-65, -64, -63, -62, -10, -8, -7, -3, -2, -1, 0, 1, 2, 3, 7, 8, 10, 16,
	62, 63, 64, 65, 127, 128, 255, 256, 1000003, 1 << 31, 1<<31 - 1, 1 << 32, 1<<32 + 1, 3037000500, 0x5555555555555555, 0x0123456789abcdef,
	greatest / 2, greatest/2 + 1, greatest - 2, greatest - 1, greatest,
}

func eachPair(check func(a, b int64)) {
	for _, a := range edges {
		for _, b := range edges {
			check(a, b)
		}
	}
}

// wrapped answers n, however great, as 64 bits with a sign have it.
func wrapped(n *big.Int) int64 {
	m := new(big.Int).Mod(n, new(big.Int).Lsh(big.NewInt(1), 64))
	return int64(m.Uint64())
}

func wantArith(t *testing.T, op api.Op, a, b, want int64) {
	t.Helper()
	if got, err := ints.Arith(op, a, b); got != want || err != api.OK {
		t.Errorf("Arith(%d, %d, %d) = %d %d, want %d", op, a, b, got, err, want)
	}
}

// P2.1: operators that are none of these, a divisor of 0.

func TestArithRefusesOtherOperators(t *testing.T) {
	takes := map[api.Op]bool{
		api.Add: true, api.Sub: true, api.Mul: true, api.Div: true, api.Mod: true, api.Band: true, api.Bor: true,
		api.Bxor: true, api.Shl: true, api.Shr: true, api.Neg: true, api.Bnot: true,
	}
	for n := range 256 {
		op := api.Op(n)
		for _, b := range []int64{0, 1, -5, least} {
			got, err := ints.Arith(op, 7, b)
			if !takes[op] && (got != 0 || err != api.ErrArg) {
				t.Errorf("Arith(%d, 7, %d) = %d %d, want ErrArg", n, b, got, err)
			}
			if takes[op] && err == api.ErrArg {
				t.Errorf("Arith(%d, 7, %d): ErrArg", n, b)
			}
		}
	}
}

func TestArithByZero(t *testing.T) {
	for _, a := range edges {
		for _, op := range []api.Op{api.Div, api.Mod} {
			if got, err := ints.Arith(op, a, 0); got != 0 || err != api.ErrZero {
				t.Errorf("Arith(%d, %d, 0) = %d %d, want ErrZero", op, a, got, err)
			}
		}
		for _, op := range []api.Op{api.Add, api.Sub, api.Bor, api.Bxor, api.Shl, api.Shr} {
			wantArith(t, op, a, 0, a)
		}
		wantArith(t, api.Mul, a, 0, 0)
		wantArith(t, api.Band, a, 0, 0)
	}
}

// P2.1: sums, differences and products, those that go beyond 64 bits too.

func TestSums(t *testing.T) {
	for _, c := range []struct {
		op         api.Op
		a, b, want int64
	}{
		{api.Add, 2, 3, 5}, {api.Add, greatest, 1, least}, {api.Add, least, -1, greatest}, {api.Add, least, least, 0}, {api.Add, greatest, greatest, -2},
		{api.Sub, 2, 3, -1}, {api.Sub, least, 1, greatest}, {api.Sub, greatest, -1, least}, {api.Sub, 0, least, least}, {api.Sub, -1, least, greatest},
		{api.Mul, -4, 3, -12}, {api.Mul, greatest, 2, -2}, {api.Mul, least, -1, least}, {api.Mul, least, 2, 0}, {api.Mul, 1 << 32, 1 << 32, 0},
		{api.Mul, 1 << 32, 1 << 31, least}, {api.Mul, 3037000500, 3037000500, -9223372036709301616}, {api.Mul, greatest, greatest, 1},
	} {
		wantArith(t, c.op, c.a, c.b, c.want)
	}
	eachPair(func(a, b int64) {
		x, y := big.NewInt(a), big.NewInt(b)
		wantArith(t, api.Add, a, b, wrapped(new(big.Int).Add(x, y)))
		wantArith(t, api.Sub, a, b, wrapped(new(big.Int).Sub(x, y)))
		wantArith(t, api.Mul, a, b, wrapped(new(big.Int).Mul(x, y)))
	})
}

// P2.1: quotients, rounded down, and rests.

func TestQuotientsOfAllSigns(t *testing.T) {
	for _, c := range []struct{ a, b, quotient, rest int64 }{
		{7, 2, 3, 1}, {7, -2, -4, -1}, {-7, 2, -4, 1}, {-7, -2, 3, -1},
		{6, 3, 2, 0}, {6, -3, -2, 0}, {-6, 3, -2, 0}, {-6, -3, 2, 0},
		{2, 7, 0, 2}, {2, -7, -1, -5}, {-2, 7, -1, 5}, {-2, -7, 0, -2},
		{0, 7, 0, 0}, {0, -7, 0, 0}, {0, least, 0, 0},
		{least, -1, least, 0}, {least, 1, least, 0}, {least, least, 1, 0}, {least, greatest, -2, greatest - 1}, {least, 2, least / 2, 0}, {least, 3, -3074457345618258603, 1},
		{greatest, -1, -greatest, 0}, {greatest, least, -1, -1}, {greatest, greatest, 1, 0}, {greatest, -2, least / 2, -1},
		{1, least, -1, least + 1}, {-1, least, 0, -1}, {-1, greatest, -1, greatest - 1}, {1, greatest, 0, 1},
	} {
		wantArith(t, api.Div, c.a, c.b, c.quotient)
		wantArith(t, api.Mod, c.a, c.b, c.rest)
	}
}

func TestQuotientsAreRoundedDown(t *testing.T) {
	eachPair(func(a, b int64) {
		if b == 0 {
			return
		}
		x, y := big.NewInt(a), big.NewInt(b)
		// DivMod's rest is never below 0: with a divisor below 0 its quotient is rounded up.
		q, m := new(big.Int).DivMod(x, y, new(big.Int))
		if b < 0 && m.Sign() > 0 {
			q.Sub(q, big.NewInt(1))
		}
		wantArith(t, api.Div, a, b, wrapped(q))
		wantArith(t, api.Mod, a, b, wrapped(new(big.Int).Sub(x, q.Mul(q, y))))
	})
}

// P2.1: bits.

// bitsOf answers the 64 bits of n, the lowest one first.
func bitsOf(n int64) (bits [64]bool) {
	for i := range bits {
		bits[i] = n&(1<<i) != 0
	}
	return bits
}

func TestBits(t *testing.T) {
	for _, c := range []struct {
		op         api.Op
		a, b, want int64
	}{
		{api.Band, 12, 10, 8}, {api.Bor, 12, 10, 14}, {api.Bxor, 12, 10, 6},
		{api.Band, -1, least, least}, {api.Bor, least, greatest, -1}, {api.Bxor, -1, greatest, least}, {api.Band, least, greatest, 0},
		{api.Bnot, 0, 0, -1}, {api.Bnot, -1, 0, 0}, {api.Bnot, 5, 0, -6}, {api.Bnot, least, 0, greatest}, {api.Bnot, greatest, 0, least},
	} {
		wantArith(t, c.op, c.a, c.b, c.want)
	}
	eachPair(func(a, b int64) {
		x, y := bitsOf(a), bitsOf(b)
		and, _ := ints.Arith(api.Band, a, b)
		or, _ := ints.Arith(api.Bor, a, b)
		xor, _ := ints.Arith(api.Bxor, a, b)
		not, _ := ints.Arith(api.Bnot, a, b)
		gotAnd, gotOr, gotXor, gotNot := bitsOf(and), bitsOf(or), bitsOf(xor), bitsOf(not)
		for i := range x {
			if gotAnd[i] != (x[i] && y[i]) || gotOr[i] != (x[i] || y[i]) || gotXor[i] != (x[i] != y[i]) || gotNot[i] == x[i] {
				t.Fatalf("%d, %d: bit %d of %d %d %d %d", a, b, i, and, or, xor, not)
			}
		}
	})
}

func TestMoves(t *testing.T) {
	for _, c := range []struct{ a, b, left, right int64 }{
		{1, 0, 1, 1}, {least, 0, least, least}, {-1, 0, -1, -1},
		{1, 1, 2, 0}, {-1, 1, -2, greatest}, {least, 1, 0, 1 << 62}, {greatest, 1, -2, greatest / 2}, {6, 1, 12, 3},
		{-1, 4, -16, 1<<60 - 1}, {-1, 60, -1 << 60, 15},
		{1, 62, 1 << 62, 0}, {1, 63, least, 0}, {3, 63, least, 0}, {2, 63, 0, 0}, {-1, 63, least, 1}, {least, 63, 0, 1},
		{1, 64, 0, 0}, {-1, 64, 0, 0}, {least, 64, 0, 0}, {-1, 65, 0, 0}, {-1, 128, 0, 0}, {-1, 1 << 32, 0, 0}, {-1, 1<<32 + 1, 0, 0}, {-1, greatest, 0, 0},
	} {
		wantArith(t, api.Shl, c.a, c.b, c.left)
		wantArith(t, api.Shr, c.a, c.b, c.right)
		wantArith(t, api.Shl, c.a, -c.b, c.right)
		wantArith(t, api.Shr, c.a, -c.b, c.left)
	}
	for _, a := range edges {
		wantArith(t, api.Shl, a, least, 0)
		wantArith(t, api.Shr, a, least, 0)
	}
}

func TestMovesBitByBit(t *testing.T) {
	for _, a := range edges {
		bits := bitsOf(a)
		for b := int64(-70); b <= 70; b++ {
			var left, right int64
			for i := range int64(64) {
				if from := i - b; from >= 0 && from < 64 && bits[from] {
					left |= 1 << i
				}
				if from := i + b; from >= 0 && from < 64 && bits[from] {
					right |= 1 << i
				}
			}
			wantArith(t, api.Shl, a, b, left)
			wantArith(t, api.Shr, a, b, right)
		}
	}
}

// P2.1: operators of one number.
func TestOperatorsOfOneDoNotAskForB(t *testing.T) {
	eachPair(func(a, b int64) {
		wantArith(t, api.Neg, a, b, wrapped(new(big.Int).Neg(big.NewInt(a))))
		wantArith(t, api.Bnot, a, b, -a-1)
	})
	wantArith(t, api.Neg, least, 0, least)
	wantArith(t, api.Neg, 5, 0, -5)
}

// P2.2

func TestCompare(t *testing.T) {
	eachPair(func(a, b int64) {
		sign := big.NewInt(a).Cmp(big.NewInt(b))
		for op, want := range map[api.Op]bool{
			api.Eq: sign == 0, api.Ne: sign != 0, api.Lt: sign < 0, api.Le: sign <= 0, api.Gt: sign > 0, api.Ge: sign >= 0,
		} {
			if got, err := ints.Compare(op, a, b); got != want || err != api.OK {
				t.Errorf("Compare(%d, %d, %d) = %v %d", op, a, b, got, err)
			}
		}
	})
}

func TestCompareRefusesOtherOperators(t *testing.T) {
	for n := range 256 {
		op := api.Op(n)
		if op == api.Eq || op == api.Ne || op == api.Lt || op == api.Le || op == api.Gt || op == api.Ge {
			continue
		}
		for _, b := range []int64{-1, 0, 1} {
			if got, err := ints.Compare(op, 0, b); got || err != api.ErrArg {
				t.Errorf("Compare(%d, 0, %d) = %v %d, want ErrArg", n, b, got, err)
			}
		}
	}
}

// P2.3

func TestText(t *testing.T) {
	for _, c := range []struct {
		n    int64
		want string
	}{
		{0, "0"}, {7, "7"}, {-7, "-7"}, {10, "10"}, {-1, "-1"}, {1000000, "1000000"}, {-100, "-100"},
		{greatest, "9223372036854775807"}, {least, "-9223372036854775808"}, {least + 1, "-9223372036854775807"},
	} {
		if got := ints.Text(c.n); got != c.want {
			t.Errorf("Text(%d) = %q", c.n, got)
		}
	}
	for _, n := range edges {
		if got, want := ints.Text(n), big.NewInt(n).String(); got != want {
			t.Errorf("Text(%d) = %q", n, got)
		}
	}
}

func TestParse(t *testing.T) {
	for _, c := range []struct {
		s    string
		want int64
	}{
		{"0", 0}, {"7", 7}, {"42", 42}, {"+42", 42}, {"-42", -42}, {"-0", 0}, {"+0", 0}, {"00", 0}, {"007", 7}, {"-007", -7}, {"08", 8}, {"010", 10},
		// Both ends of 64 bits, and noughts that ask for no room.
		{"9223372036854775807", greatest}, {"+9223372036854775807", greatest}, {"-9223372036854775807", -greatest}, {"-9223372036854775808", least},
		{"0000000000000000000000009223372036854775807", greatest}, {"-0000000000000000000000009223372036854775808", least},
		// Hex digits of either kind, with signs, and as many as there are.
		{"0x0", 0}, {"0x10", 16}, {"0X10", 16}, {"0xabcdef", 0xabcdef}, {"0xABCDEF", 0xabcdef}, {"0XaBcDeF09", 0xabcdef09}, {"+0x1f", 31}, {"-0x1f", -31}, {"-0X0", 0},
		{"0x7fffffffffffffff", greatest}, {"-0x7fffffffffffffff", -greatest}, {"0x8000000000000000", least}, {"-0x8000000000000000", least},
		{"0xffffffffffffffff", -1}, {"-0xffffffffffffffff", 1}, {"+0xffffffffffffffff", -1}, {"0x0123456789abcdef", 0x0123456789abcdef},
		{"0x10000000000000000", 0}, {"0x10000000000000001", 1}, {"-0x10000000000000001", -1}, {"0xfffffffffffffffff", -1}, {"0xa0123456789abcdef", 0x0123456789abcdef}, {"0x00000000000000000000000005", 5},
		{"0x1" + strings.Repeat("0", 1000) + "e", 14}, {"0xe", 14}, {"0x1e5", 0x1e5}, {"0x0e", 14},
		// Blanks ahead and behind.
		{" 0x10 ", 16}, {" 5", 5}, {"5 ", 5}, {"\t\n\v\f\r 5", 5}, {"5\t\n\v\f\r ", 5}, {" \n-5\n ", -5}, {" +0 ", 0}, {"\r\n-9223372036854775808\r\n", least},
	} {
		if got, ok := ints.Parse(c.s); got != c.want || !ok {
			t.Errorf("Parse(%q) = %d %v, want %d", c.s, got, ok, c.want)
		}
	}
}

func TestParseRefuses(t *testing.T) {
	for _, s := range []string{
		"", " ", "\t\n\v\f\r ", "+", "-", " - ", "+ ",
		// Beyond 64 bits.
		"9223372036854775808", "+9223372036854775808", "-9223372036854775809", "18446744073709551615", "18446744073709551616", "-18446744073709551616", "-18446744073709551617", "00018446744073709551617",
		"10000000000000000000", "99999999999999999999", strings.Repeat("9", 1000), "-" + strings.Repeat("1", 300),
		// Blanks within, signs that are too many or stand behind.
		"1 2", "- 1", "+ 1", "1 -", "0 x1", "0x 1", "0x1 2", "-\t0x1", "1\n2", "--1", "++1", "+-1", "-+1", "1-", "1+", "1-1", "0x-1", "0x+1", "-0x-1", "0-x1",
		// No digits, or others.
		"0x", "0X", "-0x", "+0X", " 0x ", "x", "x1", "-x1", "1x", "00x1", "10x1", "a", "1a", "f", "0xg", "0x1g", "0xG1", "0x0x1", "0xx1",
		"1.0", "1.", ".1", ".", "1e3", "1E3", "0x1.0", "0x1p1", "1_000", "0x_1", "0x1_0", "1,000", "0b1", "0o7", "0b", "nan", "inf", "-inf", "0'1",
		// Blanks of other kinds, and bytes that are none.
		"\x001", "1\x00", "\x081", "1\x0e", "\x851", "1\xa0", "\xc2\xa01", "1\xc2\x85", "\xe2\x80\x891", "1\x7f", "\xff", "0x\xff", "\x1f1", "!1", "\xd9\xa1",
		"/", ":", "0x/", "0x:", "0x@", "0x`", "0x1/",
	} {
		if got, ok := ints.Parse(s); got != 0 || ok {
			t.Errorf("Parse(%q) = %d %v", s, got, ok)
		}
	}
}

// byWords answers what Parse should, by the promise's words, gone through byte by byte with numbers of any size.
func byWords(s string) (int64, bool) {
	s = strings.Trim(s, "\t\n\v\f\r ")
	sign := int64(1)
	if s != "" && (s[0] == '+' || s[0] == '-') {
		if s[0] == '-' {
			sign = -1
		}
		s = s[1:]
	}
	digits, base := "0123456789", int64(10)
	if len(s) > 1 && (s[:2] == "0x" || s[:2] == "0X") {
		digits, base, s = "0123456789abcdef", 16, strings.ToLower(s[2:])
	}
	if s == "" {
		return 0, false
	}
	n := new(big.Int)
	for i := range len(s) {
		worth := strings.IndexByte(digits, s[i])
		if worth < 0 {
			return 0, false
		}
		n.Add(n.Mul(n, big.NewInt(base)), big.NewInt(int64(worth)))
	}
	n.Mul(n, big.NewInt(sign))
	if base == 10 && !n.IsInt64() {
		return 0, false
	}
	return wrapped(n), true
}

func checkByWords(t *testing.T, s string) {
	t.Helper()
	want, wantOK := byWords(s)
	if got, ok := ints.Parse(s); got != want || ok != wantOK {
		t.Fatalf("Parse(%q) = %d %v, want %d %v", s, got, ok, want, wantOK)
	}
}

func TestParseOfAllShortTexts(t *testing.T) {
	for a := range 256 {
		checkByWords(t, string([]byte{byte(a)}))
		for b := range 256 {
			checkByWords(t, string([]byte{byte(a), byte(b)}))
		}
	}
	marks := []byte("0179afAFgxX+- \n.e")
	texts := []string{""}
	for range 5 {
		var longer []string
		for _, s := range texts {
			for _, m := range marks {
				longer = append(longer, s+string(m))
			}
		}
		for _, s := range longer {
			checkByWords(t, s)
		}
		texts = longer
	}
}

func TestParseAroundTheEnds(t *testing.T) {
	around := func(middle *big.Int) {
		for d := int64(-20); d <= 20; d++ {
			n := new(big.Int).Add(middle, big.NewInt(d))
			checkByWords(t, n.String())
			checkByWords(t, "+"+n.String())
			checkByWords(t, " \t-"+n.String()+"\n")
			checkByWords(t, "0x"+n.Text(16))
			checkByWords(t, "-0X"+strings.ToUpper(n.Text(16)))
			checkByWords(t, n.String()+"0")
		}
	}
	one := big.NewInt(1)
	for _, places := range []uint{31, 32, 62, 63, 64, 65, 127, 128} {
		power := new(big.Int).Lsh(one, places)
		around(power)
		around(power.Neg(power))
	}
}

// P2.4: what follows.

func TestQuotientAndRestMakeTheNumber(t *testing.T) {
	eachPair(func(a, b int64) {
		if b == 0 {
			return
		}
		q, _ := ints.Arith(api.Div, a, b)
		m, _ := ints.Arith(api.Mod, a, b)
		product, _ := ints.Arith(api.Mul, b, q)
		sum, _ := ints.Arith(api.Add, product, m)
		if sum != a {
			t.Errorf("%d times %d, and %d, is %d, not %d", b, q, m, sum, a)
		}
		if m != 0 && (m < 0) != (b < 0) {
			t.Errorf("%d Mod %d = %d: not the divisor's sign", a, b, m)
		}
		if new(big.Int).Abs(big.NewInt(m)).Cmp(new(big.Int).Abs(big.NewInt(b))) >= 0 {
			t.Errorf("%d Mod %d = %d: not nearer to 0", a, b, m)
		}
	})
}

func TestParseOfTextIsTheNumber(t *testing.T) {
	check := func(n int64) {
		if got, ok := ints.Parse(ints.Text(n)); got != n || !ok {
			t.Errorf("Parse(Text(%d)) = %d %v", n, got, ok)
		}
	}
	for _, n := range edges {
		check(n)
	}
	for n := int64(1); n < greatest/2; n += 1 + n/100 {
		check(n)
		check(-n)
		check(n + greatest/2)
		check(least + n)
	}
	for n := range int64(1000) {
		check(n)
		if got := ints.Text(n); got != strconv.Itoa(int(n)) {
			t.Errorf("Text(%d) = %q", n, got)
		}
	}
}
