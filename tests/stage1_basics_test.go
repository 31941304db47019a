package tests

import (
	"fmt"
	"math/rand"
	"slices"
	"strings"
	"testing"

	"loop.example/g01045/impl"
)

func TestCodesHaveTheirValuesAndNames(t *testing.T) {
	codes := []int64{impl.OK, impl.ErrInvalid, impl.ErrRange, impl.ErrNotFound, impl.ErrExists, impl.ErrFull,
		impl.ErrState, impl.ErrSyntax, impl.ErrFormat, impl.ErrClash, impl.ErrJam}
	names := strings.Split("ok invalid range not-found exists full state syntax format clash jam", " ")
	for i, code := range codes {
		if code != int64(i) {
			t.Errorf("code %d is %d", i, code)
		}
		is(t, "CodeName", all(impl.CodeName(code)), names[i])
	}
	for _, code := range []int64{-1, 11, 12, 256, 1 << 32, -1 << 63, 1<<63 - 1} {
		if s := impl.CodeName(code); s != "" {
			t.Errorf("CodeName(%d) is %q", code, s)
		}
	}
}

func TestNames(t *testing.T) {
	if impl.MaxName != 12 {
		t.Fatal(impl.MaxName)
	}
	for _, s := range []string{"bar-3", "a", "z", "a0", "a9", "z-", "a--", "abcdefghijkl", "a12345678901", "az09-az09-az"} {
		if !impl.IsName(s) {
			t.Errorf("%q is a name", s)
		}
	}
	for _, s := range []string{"", "-", "-a", "3", "3a", "A", "aB", "a b", " a", "a ", "a_b", "a.b", "a\n", "a\x00", "é", "aé",
		"a\xff", "a`", "a{", "`", "{", "a/", "a:", "a,", "abcdefghijklm", "a123456789012", strings.Repeat("a", 1000)} {
		if impl.IsName(s) {
			t.Errorf("%q is no name", s)
		}
	}
}

func TestNamesByEachByte(t *testing.T) {
	for c := range 256 {
		b := byte(c)
		small := b >= 'a' && b <= 'z'
		inside := small || b >= '0' && b <= '9' || b == '-'
		one := string([]byte{b})
		if impl.IsName(one) != small || impl.IsName(one+"a") != small || impl.IsName("a"+one) != inside || impl.IsName("a"+one+"a") != inside {
			t.Errorf("byte %d", c)
		}
	}
}

func TestDecimals(t *testing.T) {
	for n, s := range map[int64]string{0: "0", 7: "7", -7: "-7", 10: "10", 100: "100", -1000: "-1000",
		1<<63 - 1: "9223372036854775807", -1 << 63: "-9223372036854775808"} {
		is(t, "Decimal", all(impl.Decimal(n)), s)
	}
	for s, want := range map[string]int64{"0": 0, "5": 5, "-5": -5, "10": 10, "100000000000000000": 100000000000000000,
		"999999999999999999": 999999999999999999, "-999999999999999999": -999999999999999999} {
		n, ok := impl.ReadDecimal(s)
		is(t, s, all(n, ok), want, true)
	}
	for _, s := range []string{"", "-", "--1", "-0", "00", "01", "-01", "+1", "+0", " 1", "1 ", "1-", "1.0", "1e3", "1_0", "0x1", "a", "1a",
		"\x001", "1\x00", "１", "٣", "\xff", "1000000000000000000", "-1000000000000000000", "9223372036854775807",
		"-9223372036854775808", "9223372036854775808", "000000000000000000", "0000000000000000001", strings.Repeat("9", 1000)} {
		if n, ok := impl.ReadDecimal(s); n != 0 || ok {
			t.Errorf("ReadDecimal(%q) is %d, %v", s, n, ok)
		}
	}
}

func TestDecimalsAreReadAgain(t *testing.T) {
	r := rand.New(rand.NewSource(1))
	for range 3000 {
		n := r.Int63() >> r.Intn(63)
		if r.Intn(2) == 0 {
			n = -n
		}
		s := impl.Decimal(n)
		is(t, "Decimal", all(s), fmt.Sprint(n))
		got, ok := impl.ReadDecimal(s)
		if n > -1e18 && n < 1e18 {
			is(t, s, all(got, ok), n, true)
		} else {
			is(t, s, all(got, ok), 0, false)
		}
	}
}

func TestSplitWords(t *testing.T) {
	for s, want := range map[string][]string{"": {}, " ": {}, "    ": {}, "a": {"a"}, " a  b ": {"a", "b"}, "a b c": {"a", "b", "c"},
		"ab": {"ab"}, "a\tb": {"a\tb"}, "a\nb \n": {"a\nb", "\n"}, "a\u00a0b\u3000c": {"a\u00a0b\u3000c"}, "\v\f \r": {"\v\f", "\r"},
		"\xff \xfe\xff": {"\xff", "\xfe\xff"}, "é \x00 日": {"é", "\x00", "日"}} {
		if words := impl.SplitWords(s); !slices.Equal(words, want) {
			t.Errorf("SplitWords(%q) is %q", s, words)
		}
	}
}

func TestSplitWordsKeepsAllOtherBytes(t *testing.T) {
	r := rand.New(rand.NewSource(2))
	for range 2000 {
		text := make([]byte, r.Intn(12))
		for i := range text {
			text[i] = " ab\xff\xc3\n"[r.Intn(6)]
		}
		var want []string
		for _, part := range strings.Split(string(text), " ") {
			if part != "" {
				want = append(want, part)
			}
		}
		if words := impl.SplitWords(string(text)); !slices.Equal(words, want) {
			t.Fatalf("SplitWords(%q) is %q", text, words)
		}
	}
}

// Promise 1 for chapter 1.
func TestBasicsArePure(t *testing.T) {
	for _, n := range oddNumbers() {
		isPure(t, "CodeName", func() []any { return all(impl.CodeName(n)) })
		isPure(t, "Decimal", func() []any { return all(impl.Decimal(n)) })
	}
	for _, s := range oddTexts() {
		isPure(t, "IsName", func() []any { return all(impl.IsName(s)) })
		isPure(t, "SplitWords", func() []any { return all(impl.SplitWords(s)) })
		isCoded(t, "ReadDecimal", func() []any {
			n, ok := impl.ReadDecimal(s)
			return all(n, ok)
		})
	}
}
