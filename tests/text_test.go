package tests

import (
	"math"
	"slices"
	"strings"
	"testing"

	"loop.example/g00834/impl"
)

// everyByte has each byte once, so most of it is no valid UTF-8.
func everyByte() string {
	b := make([]byte, 256)
	for i := range b {
		b[i] = byte(i)
	}
	return string(b)
}

// wordsOver returns all strings of at most size pieces.
func wordsOver(pieces []string, size int) []string {
	words := []string{""}
	last := words
	for range size {
		var next []string
		for _, w := range last {
			for _, p := range pieces {
				next = append(next, w+p)
			}
		}
		words = append(words, next...)
		last = next
	}
	return words
}

func TestFormatInt(t *testing.T) {
	cases := []struct {
		n    int
		want string
	}{
		{0, "0"}, {1, "1"}, {-1, "-1"}, {9, "9"}, {10, "10"}, {-10, "-10"}, {100, "100"}, {-907, "-907"},
		{math.MaxInt, "9223372036854775807"}, {math.MinInt, "-9223372036854775808"},
		{math.MaxInt - 1, "9223372036854775806"}, {math.MinInt + 1, "-9223372036854775807"},
		{math.MaxInt32 + 1, "2147483648"}, {math.MinInt32 - 1, "-2147483649"},
	}
	for _, c := range cases {
		if got := impl.FormatInt(c.n); got != c.want {
			t.Errorf("FormatInt(%d) = %q, want %q", c.n, got, c.want)
		}
	}
}

// P1: every int is recovered from its text.
func TestParseIntRecovers(t *testing.T) {
	check := func(n int) {
		got, ok := impl.ParseInt(impl.FormatInt(n))
		if !ok || got != n {
			t.Errorf("ParseInt(FormatInt(%d)) = %d, %v", n, got, ok)
		}
	}
	for n := -1100; n <= 1100; n++ {
		check(n)
	}
	for shift := range 63 {
		for d := -2; d <= 2; d++ {
			check(1<<shift + d)
			check(-1<<shift + d)
		}
	}
	for d := range 200 {
		check(math.MaxInt - d)
		check(math.MinInt + d)
	}
}

func TestParseIntRejects(t *testing.T) {
	texts := []string{
		"", "-", "+", "+0", "+1", "-0", "00", "-00", "07", "-07", "--1", "-+1", "+-1", "1-", "1+",
		" ", " 1", "1 ", "\t1", "1\n", "\n", "1 2", "1,000", "1_000", "0_1", "_1", "1.0", "1.", ".1", "1e3",
		"0x1", "0x", "0b1", "0o7", "1h", "ff", "a", "x1", "inf", "NaN", "nil",
		"9223372036854775808", "-9223372036854775809", "9223372036854775810", "-9223372036854775810",
		"18446744073709551615", "18446744073709551616", "18446744073709551617", "-18446744073709551616",
		"99999999999999999999", "-99999999999999999999", "09223372036854775807", "-09223372036854775808",
		"+9223372036854775807", strings.Repeat("9", 3000), strings.Repeat("0", 3000), strings.Repeat("0", 3000) + "1",
		"\x00", "1\x00", "\x001", "-\x00", "\xff", "1\xff", "\x801", "\xb1", "1\u0662", "\u0661", "\uff11", "\u22121", "\u20131",
	}
	for _, s := range texts {
		if n, ok := impl.ParseInt(s); ok || n != 0 {
			t.Errorf("ParseInt(%q) = %d, %v, want 0, false", s, n, ok)
		}
	}
}

// What ParseInt accepts is what FormatInt writes, for all short texts over these bytes.
func TestParseIntAgainstFormatInt(t *testing.T) {
	written := map[string]int{}
	for n := -9999; n <= 9999; n++ {
		written[impl.FormatInt(n)] = n
	}
	for _, s := range wordsOver([]string{"-", "+", "0", "1", "8", " ", "_", "\xff"}, 4) {
		want, known := written[s]
		if n, ok := impl.ParseInt(s); ok != known || n != want {
			t.Errorf("ParseInt(%q) = %d, %v, want %d, %v", s, n, ok, want, known)
		}
	}
}

func TestIsDigits(t *testing.T) {
	yes := []string{"0", "9", "09", "000", "0123456789", strings.Repeat("7", 5000)}
	no := []string{
		"", " ", "-1", "+1", "1 ", " 1", "1a", "a1", "12x34", "1.0", "1\n", "\n", "\x00", "1\x00", "\x001",
		"\xff", "1\xff", "\xff1", "\u0661", "1\u0662", "\uff11", "\U0001d7d8", "\u00b2", "\xb0", "\u0130",
	}
	for _, s := range yes {
		if !impl.IsDigits(s) {
			t.Errorf("IsDigits(%q) = false", s)
		}
	}
	for _, s := range no {
		if impl.IsDigits(s) {
			t.Errorf("IsDigits(%q) = true", s)
		}
	}
	for b := range 256 {
		want := b >= 48 && b <= 57
		for _, s := range []string{string([]byte{byte(b)}), string([]byte{'5', byte(b)}), string([]byte{byte(b), '5'})} {
			if impl.IsDigits(s) != want {
				t.Errorf("IsDigits(%q) = %v", s, !want)
			}
		}
	}
}

func TestIsName(t *testing.T) {
	yes := []string{"a", "z", "x1", "a0", "a9", "abcdefgh", "a1234567", "z9z9z9z9", "az"}
	no := []string{
		"", "1x", "0", "9", "A", "aB", "Ab", "abcdefghi", "a12345678", strings.Repeat("a", 1000),
		" a", "a ", "a b", "a-b", "a_b", "a.b", "a\n", "\na", "\x00", "a\x00", "\xff", "a\xff", "\xe1", "a\x80",
		"\u00e9", "a\u00e9", "\u0430", "a\u0661", "a\uff11", "\u0161", "abcdefg\u00e9", "`", "{", "a`", "a{", "a/", "a:",
	}
	for _, s := range yes {
		if !impl.IsName(s) {
			t.Errorf("IsName(%q) = false", s)
		}
	}
	for _, s := range no {
		if impl.IsName(s) {
			t.Errorf("IsName(%q) = true", s)
		}
	}
	for b := range 256 {
		letter := b >= 'a' && b <= 'z'
		digit := b >= '0' && b <= '9'
		if got := impl.IsName(string([]byte{byte(b)})); got != letter {
			t.Errorf("IsName of the byte %d alone = %v", b, got)
		}
		if got := impl.IsName(string([]byte{byte(b), 'a'})); got != letter {
			t.Errorf("IsName with the first byte %d = %v", b, got)
		}
		for at := 1; at < 8; at++ {
			name := []byte("abcdefgh")
			name[at] = byte(b)
			if got := impl.IsName(string(name)); got != (letter || digit) {
				t.Errorf("IsName with the byte %d at %d = %v", b, at, got)
			}
		}
	}
}

func TestSplitAny(t *testing.T) {
	cases := []struct {
		s, by string
		want  []string
	}{
		{"a,b c", ", ", []string{"a", "b", "c"}},
		{"a,b c", "", []string{"a,b c"}},
		{"", "", []string{""}},
		{"", ",", []string{""}},
		{",", ",", []string{"", ""}},
		{",,", ",", []string{"", "", ""}},
		{",a,", ",", []string{"", "a", ""}},
		{"a,b", ",,,", []string{"a", "b"}},
		{"a, b", ", ", []string{"a", "", "b"}},
		{"abc", "xyz", []string{"abc"}},
		{"abc", "cba", []string{"", "", "", ""}},
		{"a\x00b", "\x00", []string{"a", "b"}},
		{"a\xffb\xfec", "\xff", []string{"a", "b\xfec"}},
		{"a\nb\n", "\n", []string{"a", "b", ""}},
		// é is c3 a9 and è is c3 a8: the bytes of a separator split, not its runes.
		{"a\u00e9b", "\u00e9", []string{"a", "", "b"}},
		{"a\u00e8b", "\u00e9", []string{"a", "\xa8b"}},
		{"a\u00e9b", "\xc3", []string{"a", "\xa9b"}},
		{"\u00e9", "\ufffd", []string{"\u00e9"}},
		{"\xff", "\ufffd", []string{"\xff"}},
	}
	for _, c := range cases {
		if got := impl.SplitAny(c.s, c.by); !slices.Equal(got, c.want) {
			t.Errorf("SplitAny(%q, %q) = %q, want %q", c.s, c.by, got, c.want)
		}
	}
	got := impl.SplitAny(everyByte(), everyByte())
	if len(got) != 257 || strings.Join(got, "") != "" {
		t.Errorf("SplitAny of all bytes by all bytes has %d elements", len(got))
	}
}

// splitBytes marks each byte by itself: a second way to SplitAny.
func splitBytes(s string, by string) []string {
	parts := []string{""}
	for _, b := range []byte(s) {
		if slices.Contains([]byte(by), b) {
			parts = append(parts, "")
		} else {
			parts[len(parts)-1] += string([]byte{b})
		}
	}
	return parts
}

func TestSplitAnyAgainstBytes(t *testing.T) {
	words := wordsOver([]string{"a", ",", "\x00", "\xc3", "\u00e9", "\n"}, 4)
	for _, by := range wordsOver([]string{"a", ",", "\x00", "\xa9", "\u00e9"}, 2) {
		for _, s := range words {
			want := splitBytes(s, by)
			if got := impl.SplitAny(s, by); !slices.Equal(got, want) {
				t.Fatalf("SplitAny(%q, %q) = %q, want %q", s, by, got, want)
			}
		}
	}
}

func TestSplitLines(t *testing.T) {
	cases := []struct {
		s    string
		want []string
	}{
		{"", nil},
		{"a", []string{"a"}},
		{"a\n", []string{"a"}},
		{"a\nb", []string{"a", "b"}},
		{"a\nb\n", []string{"a", "b"}},
		{"\n", []string{""}},
		{"\n\n", []string{"", ""}},
		{"\n\n\n", []string{"", "", ""}},
		{"a\n\n", []string{"a", ""}},
		{"a\n\n\n", []string{"a", "", ""}},
		{"\na", []string{"", "a"}},
		{"\n\na\n\n", []string{"", "", "a", ""}},
		{" \n ", []string{" ", " "}},
		{"a\r\nb\r", []string{"a\r", "b\r"}},
		{"a\vb\fc", []string{"a\vb\fc"}},
		{"a\u2028b\u0085c", []string{"a\u2028b\u0085c"}},
		{"\x00\n\x00", []string{"\x00", "\x00"}},
		{"\xff\n\xfe", []string{"\xff", "\xfe"}},
		{"\xe2\n\x82", []string{"\xe2", "\x82"}},
		{"\u00e9\n\u00e8\n", []string{"\u00e9", "\u00e8"}},
	}
	for _, c := range cases {
		if got := impl.SplitLines(c.s); !slices.Equal(got, c.want) {
			t.Errorf("SplitLines(%q) = %q, want %q", c.s, got, c.want)
		}
	}
}

func TestSplitLinesAgainstSplitAny(t *testing.T) {
	for _, s := range wordsOver([]string{"a", "\n", "\r", "\xf0\x9f", "\u00e9", "\x00"}, 5) {
		want := splitBytes(s, "\n")
		if want[len(want)-1] == "" {
			want = want[:len(want)-1]
		}
		if got := impl.SplitLines(s); !slices.Equal(got, want) {
			t.Fatalf("SplitLines(%q) = %q, want %q", s, got, want)
		}
	}
}

func TestJoin(t *testing.T) {
	cases := []struct {
		l    []string
		by   string
		want string
	}{
		{nil, ",", ""},
		{[]string{}, ",", ""},
		{[]string{""}, ",", ""},
		{[]string{"a"}, ",", "a"},
		{[]string{"a", "b"}, ",", "a,b"},
		{[]string{"a", "b", "c"}, "", "abc"},
		{[]string{"a", "b", "c"}, ", ", "a, b, c"},
		{[]string{"", ""}, ",", ","},
		{[]string{"", "", ""}, "-", "--"},
		{[]string{"", "a", ""}, "+", "+a+"},
		{[]string{",", ","}, ",", ",,,"},
		{[]string{"\xff", "\x00"}, "\xfe", "\xff\xfe\x00"},
		{[]string{"\xc3", "\xa9"}, "", "\u00e9"},
	}
	for _, c := range cases {
		if got := impl.Join(c.l, c.by); got != c.want {
			t.Errorf("Join(%q, %q) = %q, want %q", c.l, c.by, got, c.want)
		}
	}
}

func TestJoinUndoesSplitAny(t *testing.T) {
	for _, s := range wordsOver([]string{"a", ",", "\xff", "\u00e9", "\n"}, 5) {
		for _, by := range []string{",", "\xff", "\n", "\xc3"} {
			if got := impl.Join(impl.SplitAny(s, by), by); got != s {
				t.Fatalf("Join(SplitAny(%q, %q), %q) = %q", s, by, by, got)
			}
		}
	}
}

func TestPadZeros(t *testing.T) {
	long := strings.Repeat("x", 2005)
	cases := []struct {
		s    string
		n    int
		want string
	}{
		{"7", 3, "007"}, {"7", 2, "07"}, {"7", 1, "7"}, {"7", 0, "7"}, {"7", -1, "7"},
		{"007", 2, "007"}, {"1234", 3, "1234"}, {"123", 4, "0123"},
		{"", 0, ""}, {"", 1, "0"}, {"", 3, "000"}, {"", -5, ""},
		{"-5", 4, "00-5"}, {" ", 2, "0 "}, {"ab", 5, "000ab"},
		{"\x00", 2, "0\x00"}, {"\xff\xfe", 3, "0\xff\xfe"}, {"\u00e9", 2, "\u00e9"}, {"\u00e9", 3, "0\u00e9"},
		{"7", 1999, strings.Repeat("0", 1998) + "7"},
		{"7", 2000, strings.Repeat("0", 1999) + "7"},
		{"7", 2001, "7"}, {"7", 5000, "7"}, {"", 2000, strings.Repeat("0", 2000)}, {"", 2001, ""},
		{"7", math.MaxInt, "7"}, {"7", math.MinInt, "7"}, {"", math.MaxInt, ""}, {"", math.MinInt, ""},
		{long, 2000, long}, {long, 2005, long}, {long, 2010, long}, {long, math.MaxInt, long},
	}
	for _, c := range cases {
		if got := impl.PadZeros(c.s, c.n); got != c.want {
			t.Errorf("PadZeros(%q, %d) = %q, want %q", c.s, c.n, got, c.want)
		}
	}
	for n := range 2002 {
		want := n
		if n < 2 || n > 2000 {
			want = 2
		}
		got := impl.PadZeros("42", n)
		if len(got) != want || strings.TrimLeft(got, "0") != "42" {
			t.Errorf("PadZeros(%q, %d) has %d bytes", "42", n, len(got))
		}
	}
}

// Neither the elements nor the spare capacity behind an argument may change.
func TestTextArgumentsStay(t *testing.T) {
	whole := []string{"a", "b", "c", "d"}
	if got := impl.Join(whole[:2], ","); got != "a,b" {
		t.Errorf("Join of a part = %q", got)
	}
	if !slices.Equal(whole, []string{"a", "b", "c", "d"}) {
		t.Errorf("Join changed its argument to %q", whole)
	}
}

// Results are new at each call: a caller may write into them.
func TestTextResultsAreNew(t *testing.T) {
	calls := []func() []string{
		func() []string { return impl.SplitAny("a,b", ",") },
		func() []string { return impl.SplitLines("a\nb\n") },
	}
	for i, call := range calls {
		first := call()
		first[0] = "changed"
		_ = append(first, "more")
		if got := call(); !slices.Equal(got, []string{"a", "b"}) {
			t.Errorf("call %d after a change of its result = %q", i, got)
		}
	}
}
