package tests

import (
	"math"
	"slices"
	"strings"
	"testing"

	"loop.example/g01401/impl"
)

func TestNumbersTextAndBack(t *testing.T) {
	cases := []struct {
		bits []uint32
		want string
	}{
		{nil, "none"},
		{[]uint32{oneBits}, "3f800000"},
		{[]uint32{oneBits, 0xc0000000}, "3f800000,c0000000"},
		{[]uint32{zeroBits, negZeroBits, leastBits}, "00000000,80000000,00000001"},
		{[]uint32{infBits, negInfBits, 0x9abcdef0}, "7f800000,ff800000,9abcdef0"},
		{[]uint32{0x7f800001, 0xffc00000, nanBits}, "7fc00000,7fc00000,7fc00000"},
	}
	for _, c := range cases {
		list := numbers(c.bits)
		text, ok := impl.NumbersText(list)
		wantEqual(t, text, c.want, "NumbersText", c.bits)
		wantEqual(t, ok, true, "NumbersText succeeds", c.bits)
		back, ok := impl.ReadNumbers(text)
		wantEqual(t, ok && sameList(back, list), true, "ReadNumbers", text, back)
	}
}

func TestEachNumberIsReadBack(t *testing.T) {
	strideBits(func(bits uint32) {
		x := number(bits)
		text, _ := impl.NumbersText([]float32{x})
		back, ok := impl.ReadNumbers(text)
		wantEqual(t, ok && sameList(back, []float32{x}), true, "ReadNumbers", text, back)
		pair := []complex64{complex(x, 1), complex(-1, x)}
		text, _ = impl.ComplexText(pair)
		parts, ok := impl.ReadComplex(text)
		wantEqual(t, ok && len(parts) == 2, true, "ReadComplex succeeds", text)
		if len(parts) == 2 {
			wantEqual(t, impl.SameComplex(parts[0], pair[0]) && impl.SameComplex(parts[1], pair[1]), true, "ReadComplex", text, parts)
		}
	})
}

func TestComplexTextAndBack(t *testing.T) {
	text, ok := impl.ComplexText([]complex64{1, complex(0, -2), cnumber(0xffffffff, negZeroBits)})
	wantEqual(t, text, "3f80000000000000,00000000c0000000,7fc0000080000000", "ComplexText")
	wantEqual(t, ok, true, "ComplexText succeeds")
	list, ok := impl.ReadComplex("3f80000000000000,7fc0000080000000")
	wantEqual(t, ok && len(list) == 2, true, "ReadComplex succeeds")
	if len(list) == 2 {
		wantComplex(t, list[0], oneBits, zeroBits, "ReadComplex")
		wantComplex(t, list[1], nanBits, negZeroBits, "ReadComplex")
	}
	text, ok = impl.ComplexText(nil)
	wantEqual(t, ok && text == "none", true, "ComplexText of none", text)
	list, ok = impl.ReadComplex("none")
	wantEqual(t, ok && len(list) == 0, true, "ReadComplex of none", list)
}

// badBits are texts that are no text of a number, nor of several ones.
var badBits = []string{
	"", ",", "none,", ",none", "none,none", "None", " none", "no", "3f80000", "3f8000000", "03f800000",
	"3F800000", "3f80000g", "3f80000/", "3f80000:", "3f80000`", "3f80000 ", " 3f80000", "-3f80000", "+3f80000", "0x3f8000", "3f_80000",
	"3f800000,", ",3f800000", "3f800000,,3f800000", "3f800000, 3f800000", "3f800000;3f800000", "3f800000 3f800000",
	"3f800000,none", "7f800001", "ffc00000", "ffffffff", "7fc00001", "7fbfffff", "3f8000\u00e9", "3f80000\u00e9", "3f80000\xff", "\u0663\u0663\u0663\u0663", "3f80000\x00",
}

func TestReadNumbersFailsForOtherTexts(t *testing.T) {
	for _, s := range badBits {
		list, ok := impl.ReadNumbers(s)
		wantEqual(t, !ok && len(list) == 0, true, "ReadNumbers fails", s, list)
	}
}

func TestReadComplexFailsForOtherTexts(t *testing.T) {
	bad := []string{"3f800000", "3f800000,00000000", "03f80000000000000", "3f800000000000000", "3f8000000000000000000000", "3f80000000000000,", "3f80000000000000,3f800000"}
	for _, s := range badBits {
		bad = append(bad, s)
		if len(s) > 0 {
			bad = append(bad, s+"00000000", "00000000"+s)
		}
	}
	for _, s := range bad {
		list, ok := impl.ReadComplex(s)
		wantEqual(t, !ok && len(list) == 0, true, "ReadComplex fails", s, list)
	}
}

// repeated returns n times item, with commas between.
func repeated(item string, n int) string {
	return strings.Repeat(item+",", n-1) + item
}

func TestTextsReachTheLimit(t *testing.T) {
	for _, n := range []int{impl.MaxNumbers, impl.MaxNumbers + 1, 5000} {
		fits := n <= impl.MaxNumbers
		text, ok := impl.NumbersText(ones[float32](n))
		wantEqual(t, ok == fits && (text == repeated("3f800000", n)) == fits, true, "NumbersText", n)
		list, ok := impl.ReadNumbers(repeated("3f800000", n))
		wantEqual(t, ok == fits && (len(list) == n) == fits, true, "ReadNumbers", n)
		textC, ok := impl.ComplexText(ones[complex64](n))
		wantEqual(t, ok == fits && (textC == repeated("3f80000000000000", n)) == fits, true, "ComplexText", n)
		listC, ok := impl.ReadComplex(repeated("3f80000000000000", n))
		wantEqual(t, ok == fits && (len(listC) == n) == fits, true, "ReadComplex", n)
		if !fits {
			wantEqual(t, text == "" && textC == "" && len(list) == 0 && len(listC) == 0, true, "failing texts are zero", n)
		}
	}
	for _, n := range []int{impl.MaxItems, impl.MaxItems + 1, 5000} {
		fits := n <= impl.MaxItems
		text, ok := impl.ListText(make([]int64, n))
		wantEqual(t, ok == fits && (text == repeated("0", n)) == fits, true, "ListText", n)
		list, ok := impl.ReadList(repeated("0", n))
		wantEqual(t, ok == fits && (len(list) == n) == fits, true, "ReadList", n)
		if !fits {
			wantEqual(t, text == "" && len(list) == 0, true, "failing lists are zero", n)
		}
	}
}

func TestNames(t *testing.T) {
	for _, s := range []string{"a", "z", "ring", "none", "abcdefgh"} {
		wantEqual(t, impl.IsName(s), true, "IsName", s)
	}
	for _, s := range []string{"", "abcdefghi", "A", "Ring", "a1", "1", "a b", " a", "a ", "a_b", "`", "{", "\u00e9", "a\x00", "a\xff", "\uff41", strings.Repeat("a", 1000)} {
		wantEqual(t, impl.IsName(s), false, "IsName", s)
	}
}

func TestDecimals(t *testing.T) {
	cases := []struct {
		n    int64
		want string
	}{
		{0, "0"}, {7, "7"}, {-4, "-4"}, {10, "10"}, {-100, "-100"},
		{impl.MaxValue, "1000000000000000"}, {-impl.MaxValue, "-1000000000000000"},
		{impl.MaxValue + 1, "1000000000000001"}, {-impl.MaxValue - 1, "-1000000000000001"},
		{math.MaxInt64, "9223372036854775807"}, {math.MinInt64, "-9223372036854775808"},
	}
	for _, c := range cases {
		wantEqual(t, impl.Decimal(c.n), c.want, "Decimal", c.n)
		n, ok := impl.ReadDecimal(c.want)
		if c.n >= -impl.MaxValue && c.n <= impl.MaxValue {
			wantEqual(t, ok && n == c.n, true, "ReadDecimal", c.want, n)
		} else {
			wantEqual(t, !ok && n == 0, true, "ReadDecimal fails", c.want, n)
		}
	}
}

// badDecimals are texts that are no Decimal of a number from -MaxValue to MaxValue.
var badDecimals = []string{
	"", "-", "+", "-0", "+0", "00", "01", "-01", "+1", "--1", "1-", " 1", "1 ", "1\n", "1.0", "1.", ".5", "1e3", "0x10", "0b1", "0o7", "1_000",
	"a", "1a", "\u0663", "\uff11", "1\x00", "1\xff", "1000000000000001", "-1000000000000001", "9223372036854775808", "18446744073709551617", strings.Repeat("9", 1000),
}

func TestReadDecimalFailsForOtherTexts(t *testing.T) {
	for _, s := range badDecimals {
		n, ok := impl.ReadDecimal(s)
		wantEqual(t, !ok && n == 0, true, "ReadDecimal fails", s, n)
	}
}

func TestListTextAndBack(t *testing.T) {
	cases := []struct {
		list []int64
		want string
	}{
		{nil, "none"}, {[]int64{}, "none"}, {[]int64{0}, "0"}, {[]int64{3, -1, 2}, "3,-1,2"}, {[]int64{5, 5}, "5,5"},
		{[]int64{impl.MaxValue, -impl.MaxValue}, "1000000000000000,-1000000000000000"},
	}
	for _, c := range cases {
		text, ok := impl.ListText(c.list)
		wantEqual(t, ok && text == c.want, true, "ListText", c.list, text)
		list, ok := impl.ReadList(c.want)
		wantEqual(t, ok && slices.Equal(list, c.list), true, "ReadList", c.want, list)
	}
}

func TestListsFail(t *testing.T) {
	for _, list := range [][]int64{{impl.MaxValue + 1}, {-impl.MaxValue - 1}, {0, math.MinInt64}, {1, math.MaxInt64, 2}} {
		text, ok := impl.ListText(list)
		wantEqual(t, !ok && text == "", true, "ListText fails", list, text)
	}
	bad := []string{",", "none,", "none,1", "1,none", "None", "1,", ",1", "1,,2", "1, 2", "1;2", "1 2", "1.2"}
	for _, s := range badDecimals {
		bad = append(bad, s, "1,"+s, s+",1")
	}
	for _, s := range bad {
		list, ok := impl.ReadList(s)
		wantEqual(t, !ok && len(list) == 0, true, "ReadList fails", s, list)
	}
}

func TestCheckNumbers(t *testing.T) {
	every := make([]byte, 256)
	for i := range every {
		every[i] = byte(i)
	}
	cases := []struct {
		start int64
		s     string
		want  int64
	}{
		{0, "", 0}, {65002, "", 65002}, {0, "a", 336}, {65002, "\xff", 64514},
		{0, "Decks and draws", 9594}, {1, "\x00\x00", 31411}, {12345, string(every), 44878},
	}
	for _, c := range cases {
		check, ok := impl.CheckOf(c.start, c.s)
		wantEqual(t, ok && check == c.want, true, "CheckOf", c.start, c.s, check)
		half, _ := impl.CheckOf(c.start, c.s[:len(c.s)/2])
		check, ok = impl.CheckOf(half, c.s[len(c.s)/2:])
		wantEqual(t, ok && check == c.want, true, "CheckOf in two parts", c.start, c.s, check)
	}
	for _, start := range []int64{-1, impl.CheckSize, impl.CheckSize + 1, math.MinInt64, math.MaxInt64} {
		check, ok := impl.CheckOf(start, "a")
		wantEqual(t, !ok && check == 0, true, "CheckOf fails", start, check)
	}
}
