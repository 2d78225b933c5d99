package tests

import (
	"math"
	"slices"
	"strings"
	"testing"

	"loop.example/g00980/impl"
)

func TestTextLimits(t *testing.T) {
	got := []int{impl.MaxInputLen, impl.MaxUint, impl.MaxLineLen, impl.MaxFieldsPerLine}
	if want := []int{20000, 1000000000, 600, 24}; !slices.Equal(got, want) {
		t.Errorf("limits are %v, want %v", got, want)
	}
}

func TestEncodeHex(t *testing.T) {
	for _, c := range []struct{ s, want string }{
		{"", ""},
		{"az", "617a"},
		{"A B", "412042"},
		{"\x00\x01\x0f\x10\x7f\x80\xf0\xff", "00010f107f80f0ff"},
		{"\xc3\xa9", "c3a9"},
		{"0123", "30313233"},
	} {
		if got, ok := impl.EncodeHex(c.s); got != c.want || !ok {
			t.Errorf("EncodeHex(%q) = %q, %v, want %q, true", c.s, got, ok, c.want)
		}
	}
}

func TestEncodeHexLimit(t *testing.T) {
	got, ok := impl.EncodeHex(strings.Repeat("k", impl.MaxInputLen))
	if got != strings.Repeat("6b", impl.MaxInputLen) || !ok {
		t.Errorf("at the limit: %d bytes, %v", len(got), ok)
	}
	for _, n := range []int{impl.MaxInputLen + 1, 2*impl.MaxInputLen + 1} {
		if got, ok := impl.EncodeHex(strings.Repeat("k", n)); got != "" || ok {
			t.Errorf("%d bytes: %d bytes, %v, want none, false", n, len(got), ok)
		}
	}
}

func TestDecodeHex(t *testing.T) {
	for _, c := range []struct{ s, want string }{
		{"", ""},
		{"617a", "az"},
		{"00", "\x00"},
		{"0009", "\x00\t"},
		{"10", "\x10"},
		{"af", "\xaf"},
		{"fa", "\xfa"},
		{"99", "\x99"},
	} {
		if got, ok := impl.DecodeHex(c.s); got != c.want || !ok {
			t.Errorf("DecodeHex(%q) = %q, %v, want %q, true", c.s, got, ok, c.want)
		}
	}
}

func TestDecodeHexInvalid(t *testing.T) {
	for _, s := range []string{
		"6", "617", "61 7a", " 61", "61 ", "6 ", "0x61", "-1", "+1", "6\x00", "61\n", "é",
		"6A", "A6", "FF", "617A", "617g", "g1", "zz",
	} {
		if got, ok := impl.DecodeHex(s); got != "" || ok {
			t.Errorf("DecodeHex(%q) = %q, %v, want none, false", s, got, ok)
		}
	}
}

// TestDecodeHexDigits puts every byte into both halves of a pair behind a valid one.
func TestDecodeHexDigits(t *testing.T) {
	for b := range 256 {
		digit := string([]byte{byte(b)})
		value := strings.Index("0123456789abcdef", digit)
		high, highOk := impl.DecodeHex("61" + digit + "0")
		low, lowOk := impl.DecodeHex("610" + digit)
		if value < 0 {
			if high != "" || highOk || low != "" || lowOk {
				t.Errorf("digit %q is accepted: %q, %v, %q, %v", digit, high, highOk, low, lowOk)
			}
			continue
		}
		wantHigh, wantLow := string([]byte{'a', byte(value << 4)}), string([]byte{'a', byte(value)})
		if high != wantHigh || !highOk || low != wantLow || !lowOk {
			t.Errorf("digit %q: %q, %v, %q, %v", digit, high, highOk, low, lowOk)
		}
	}
}

func TestDecodeHexLimit(t *testing.T) {
	got, ok := impl.DecodeHex(strings.Repeat("6b", impl.MaxInputLen))
	if got != strings.Repeat("k", impl.MaxInputLen) || !ok {
		t.Errorf("at the limit: %d bytes, %v", len(got), ok)
	}
	at := strings.Repeat("6b", impl.MaxInputLen)
	for _, s := range []string{at + "6", at + "6b", at[1:], at[1:] + "g"} {
		if got, ok := impl.DecodeHex(s); got != "" || ok {
			t.Errorf("%d digits: %d bytes, %v, want none, false", len(s), len(got), ok)
		}
	}
}

// TestHexRoundTrip covers all pairs of adjacent bytes, and both directions of the promise.
func TestHexRoundTrip(t *testing.T) {
	for a := range 256 {
		for b := range 256 {
			s := string([]byte{byte(a), byte(b)})
			text, ok := impl.EncodeHex(s)
			back, backOk := impl.DecodeHex(text)
			if !ok || !backOk || back != s || len(text) != 4 || text != strings.ToLower(text) {
				t.Fatalf("%q is %q, %v and back %q, %v", s, text, ok, back, backOk)
			}
			again, againOk := impl.EncodeHex(back)
			if again != text || !againOk {
				t.Fatalf("%q is encoded as %q and then as %q", s, text, again)
			}
		}
	}
}

func TestFormatInt(t *testing.T) {
	for _, c := range []struct {
		n    int
		want string
	}{
		{0, "0"},
		{7, "7"},
		{-1, "-1"},
		{-5, "-5"},
		{10, "10"},
		{-10, "-10"},
		{1000000000, "1000000000"},
		{-1000000001, "-1000000001"},
		{math.MaxInt, "9223372036854775807"},
		{math.MinInt, "-9223372036854775808"},
		{math.MinInt + 1, "-9223372036854775807"},
	} {
		if got := impl.FormatInt(c.n); got != c.want {
			t.Errorf("FormatInt(%d) = %q, want %q", c.n, got, c.want)
		}
	}
}

func TestParseUint(t *testing.T) {
	for _, c := range []struct {
		s    string
		want int
	}{
		{"0", 0},
		{"1", 1},
		{"9", 9},
		{"10", 10},
		{"1907", 1907},
		{"999999999", 999999999},
		{"1000000000", impl.MaxUint},
	} {
		if got, ok := impl.ParseUint(c.s); got != c.want || !ok {
			t.Errorf("ParseUint(%q) = %d, %v, want %d, true", c.s, got, ok, c.want)
		}
	}
}

func TestParseUintInvalid(t *testing.T) {
	for _, s := range []string{
		"", " ", "-", "+", "x",
		"00", "01", "007", "0000000000", "01000000000", "0x1", "0b1", "0 ",
		"-0", "-1", "-01", "+1", " 1", "1 ", "1 2", "1_000", "1.0", "1e3", "1/", "1:", "12a", "a12", "١", "1\x00", "1\n",
		"1000000001", "1000000010", "2000000000", "9999999999", "10000000000",
		"9223372036854775807", "9223372036854775808", "18446744073709551616", "18446744073709551617",
		"100000000000000000000000000001", strings.Repeat("9", 30000), "1" + strings.Repeat("0", 64),
	} {
		if got, ok := impl.ParseUint(s); got != 0 || ok {
			t.Errorf("ParseUint(%.40q) = %d, %v, want 0, false", s, got, ok)
		}
	}
}

// TestParseUintDigits puts every byte before, between and behind digits.
func TestParseUintDigits(t *testing.T) {
	for b := range 256 {
		c := string([]byte{byte(b)})
		digit := strings.Contains("0123456789", c)
		for _, s := range []string{"1" + c, "1" + c + "1", c + "1"} {
			want := digit && s[0] != '0'
			if _, ok := impl.ParseUint(s); ok != want {
				t.Errorf("ParseUint(%q) is %v, want %v", s, ok, want)
			}
		}
	}
}

func TestDecimalRoundTrip(t *testing.T) {
	check := func(n int) {
		got, ok := impl.ParseUint(impl.FormatInt(n))
		if want := n >= 0 && n <= impl.MaxUint; ok != want || want && got != n || !want && got != 0 {
			t.Errorf("%d is parsed from its text as %d, %v", n, got, ok)
		}
	}
	for n := -1200; n <= 1200; n++ {
		check(n)
		check(impl.MaxUint + n)
		check(impl.MaxUint/2 + n)
	}
	for n := 1; n > 0; n *= 3 {
		check(n)
		check(-n)
	}
}

func TestSplitFields(t *testing.T) {
	for _, c := range []struct {
		line string
		want []string
	}{
		{"", nil},
		{" ", nil},
		{"     ", nil},
		{"a", []string{"a"}},
		{" a", []string{"a"}},
		{"a ", []string{"a"}},
		{"  a  ", []string{"a"}},
		{" step  1 ", []string{"step", "1"}},
		{"pay 10 -3 0", []string{"pay", "10", "-3", "0"}},
		{"a  b   c", []string{"a", "b", "c"}},
		{"a,b;c d=1", []string{"a,b;c", "d=1"}},
		{"! ~", []string{"!", "~"}},
		{"same same", []string{"same", "same"}},
	} {
		if got, ok := impl.SplitFields(c.line); !slices.Equal(got, c.want) || !ok {
			t.Errorf("SplitFields(%q) = %q, %v, want %q, true", c.line, got, ok, c.want)
		}
	}
}

// TestSplitFieldsBytes puts every byte at the start, between fields, into a field and at the end.
func TestSplitFieldsBytes(t *testing.T) {
	for b := range 256 {
		c := string([]byte{byte(b)})
		for _, line := range []string{c, c + "a", "a" + c + "d", "a " + c + " d", "a d" + c, "a d " + c} {
			got, ok := impl.SplitFields(line)
			switch {
			case b >= 32 && b <= 126:
				if want := strings.Fields(line); !ok || !slices.Equal(got, want) {
					t.Errorf("SplitFields(%q) = %q, %v, want %q, true", line, got, ok, want)
				}
			case ok || len(got) != 0:
				t.Errorf("SplitFields(%q) = %q, %v, want none, false", line, got, ok)
			}
		}
	}
}

func TestSplitFieldsLineLimit(t *testing.T) {
	long := strings.Repeat("x", impl.MaxLineLen-2)
	for _, c := range []struct {
		line string
		want []string
	}{
		{long + "xx", []string{long + "xx"}},
		{" " + long + " ", []string{long}},
		{strings.Repeat(" ", impl.MaxLineLen), nil},
		{strings.Repeat(" ", impl.MaxLineLen-1) + "y", []string{"y"}},
	} {
		if got, ok := impl.SplitFields(c.line); !slices.Equal(got, c.want) || !ok {
			t.Errorf("%d bytes: %q, %v", len(c.line), got, ok)
		}
		for _, line := range []string{c.line + " ", c.line + "x", " " + c.line} {
			if got, ok := impl.SplitFields(line); len(got) != 0 || ok {
				t.Errorf("%d bytes: %q, %v, want none, false", len(line), got, ok)
			}
		}
	}
	for _, last := range []string{"\x1f", "\x7f", "\n"} {
		if got, ok := impl.SplitFields(long + "x" + last); len(got) != 0 || ok {
			t.Errorf("last byte %q: %q, %v, want none, false", last, got, ok)
		}
	}
}

func TestSplitFieldsCountLimit(t *testing.T) {
	for n := range 60 {
		want := slices.Repeat([]string{"ab"}, n)
		if n > impl.MaxFieldsPerLine {
			want = nil
		}
		line := strings.Repeat("ab ", n)
		for _, s := range []string{line, " " + line, strings.TrimSpace(line), strings.ReplaceAll(line, " ", "   ")} {
			if got, ok := impl.SplitFields(s); !slices.Equal(got, want) || ok != (n <= impl.MaxFieldsPerLine) {
				t.Errorf("%d fields: %q, %v", n, got, ok)
			}
		}
	}
}

func TestSplitFieldsNewMemory(t *testing.T) {
	line := "one two three"
	first, _ := impl.SplitFields(line)
	for i := range first {
		first[i] = "changed"
	}
	second, ok := impl.SplitFields(line)
	if !ok || !slices.Equal(second, []string{"one", "two", "three"}) {
		t.Errorf("a second call gives %q, %v", second, ok)
	}
}

func TestClamp(t *testing.T) {
	for _, c := range []struct{ n, low, high, want int }{
		{3, 1, 5, 3},
		{1, 1, 5, 1},
		{5, 1, 5, 5},
		{0, 1, 5, 1},
		{6, 1, 5, 5},
		{9, 1, 5, 5},
		{-7, -5, -1, -5},
		{-3, -5, -1, -3},
		{0, -5, -1, -1},
		{4, 4, 4, 4},
		{3, 4, 4, 4},
		{5, 4, 4, 4},
		{math.MinInt, 0, math.MaxInt, 0},
		{math.MaxInt, math.MinInt, 0, 0},
		{math.MinInt, math.MinInt, math.MaxInt, math.MinInt},
		{math.MaxInt, math.MinInt, math.MaxInt, math.MaxInt},
	} {
		if got := impl.Clamp(c.n, c.low, c.high); got != c.want {
			t.Errorf("Clamp(%d, %d, %d) = %d, want %d", c.n, c.low, c.high, got, c.want)
		}
	}
}

func TestClampHighLessThanLow(t *testing.T) {
	for n := -12; n <= 12; n++ {
		if got := impl.Clamp(n, 5, -5); got != 5 {
			t.Errorf("Clamp(%d, 5, -5) = %d, want 5", n, got)
		}
		if got := impl.Clamp(n, -5, -6); got != -5 {
			t.Errorf("Clamp(%d, -5, -6) = %d, want -5", n, got)
		}
		if got := impl.Clamp(n, math.MaxInt, math.MinInt); got != math.MaxInt {
			t.Errorf("Clamp(%d, greatest, least) = %d", n, got)
		}
	}
}

// TestClampRange checks the promise itself: in the range, and a value of the range unchanged.
func TestClampRange(t *testing.T) {
	for low := -4; low <= 4; low++ {
		for high := low; high <= 4; high++ {
			for n := -6; n <= 6; n++ {
				got := impl.Clamp(n, low, high)
				if got < low || got > high || n >= low && n <= high && got != n {
					t.Errorf("Clamp(%d, %d, %d) = %d", n, low, high, got)
				}
			}
		}
	}
}
