package tests

import (
	"math"
	"slices"
	"strings"
	"testing"

	"loop.example/g03302/impl"
)

// allBytes returns every byte once, in ascending order.
func allBytes() string {
	b := make([]byte, 256)
	for i := range b {
		b[i] = byte(i)
	}
	return string(b)
}

func checkEncodeHex(t *testing.T, s string, want string, wantOk bool) {
	t.Helper()
	got, ok := impl.EncodeHex(s)
	if got != want || ok != wantOk {
		t.Errorf("EncodeHex of %d bytes: got %d bytes and %v, want %d bytes and %v", len(s), len(got), ok, len(want), wantOk)
	}
}

func checkDecodeHex(t *testing.T, s string, want string, wantOk bool) {
	t.Helper()
	got, ok := impl.DecodeHex(s)
	if got != want || ok != wantOk {
		t.Errorf("DecodeHex of %d bytes: got %d bytes and %v, want %d bytes and %v", len(s), len(got), ok, len(want), wantOk)
	}
}

func checkParseUint(t *testing.T, s string, want int, wantOk bool) {
	t.Helper()
	got, ok := impl.ParseUint(s)
	if got != want || ok != wantOk {
		t.Errorf("ParseUint(%q): got %d, %v, want %d, %v", s, got, ok, want, wantOk)
	}
}

func checkFields(t *testing.T, line string, want ...string) {
	t.Helper()
	got, ok := impl.SplitFields(line)
	if !ok || !slices.Equal(got, want) {
		t.Errorf("SplitFields(%q): got %q, %v, want %q, true", line, got, ok, want)
	}
}

func checkNoFields(t *testing.T, line string) {
	t.Helper()
	got, ok := impl.SplitFields(line)
	if ok || len(got) != 0 {
		t.Errorf("SplitFields(%q): got %q, %v, want no fields, false", line, got, ok)
	}
}

func TestTextLimits(t *testing.T) {
	if impl.MaxInputLen != 20000 || impl.MaxUint != 1000000000 || impl.MaxLineLen != 600 || impl.MaxFieldsPerLine != 24 {
		t.Error("a limit is not the one of the document")
	}
}

func TestEncodeHex(t *testing.T) {
	checkEncodeHex(t, "az", "617a", true)
	checkEncodeHex(t, "", "", true)
	checkEncodeHex(t, "\x00\x09\x0a\x0f\x10\x7f\x80\xf0\xff", "00090a0f107f80f0ff", true)
	checkEncodeHex(t, "\u00e9", "c3a9", true)
	checkEncodeHex(t, strings.Repeat("k", impl.MaxInputLen), strings.Repeat("6b", impl.MaxInputLen), true)
	checkEncodeHex(t, strings.Repeat("k", impl.MaxInputLen+1), "", false)
}

func TestDecodeHex(t *testing.T) {
	checkDecodeHex(t, "617a", "az", true)
	checkDecodeHex(t, "", "", true)
	checkDecodeHex(t, "00090a0f107f80f0ff", "\x00\x09\x0a\x0f\x10\x7f\x80\xf0\xff", true)
	checkDecodeHex(t, strings.Repeat("6b", impl.MaxInputLen), strings.Repeat("k", impl.MaxInputLen), true)
}

func TestDecodeHexRejects(t *testing.T) {
	for _, s := range []string{
		"6", "617", "617a6",
		"6A", "A6", "FF", "617A", "aF",
		"6g", "g6", "6`", "6/", "6:", "6@", "0x", " 6", "6 ", "-1", "+1", "6\n", "6\x00", "\xff\xff", "61zz", "zz61",
	} {
		checkDecodeHex(t, s, "", false)
	}
	checkDecodeHex(t, strings.Repeat("6b", impl.MaxInputLen)+"6", "", false)
	checkDecodeHex(t, strings.Repeat("6b", impl.MaxInputLen+1), "", false)
	checkDecodeHex(t, strings.Repeat("6b", impl.MaxInputLen-1)+"6B", "", false)
}

func TestHexOfEveryByte(t *testing.T) {
	all := allBytes()
	for _, s := range []string{all, strings.Repeat(all, impl.MaxInputLen/256)} {
		encoded, ok := impl.EncodeHex(s)
		if !ok || len(encoded) != 2*len(s) || encoded != strings.ToLower(encoded) {
			t.Fatalf("EncodeHex failed for %d bytes", len(s))
		}
		checkDecodeHex(t, encoded, s, true)
	}
}

func TestDecodedPairsEncodeBack(t *testing.T) {
	all := allBytes()
	count := 0
	for i := range len(all) {
		for j := range len(all) {
			pair := string([]byte{all[i], all[j]})
			decoded, ok := impl.DecodeHex(pair)
			if !ok {
				if decoded != "" {
					t.Errorf("DecodeHex(%q) returned %q and false", pair, decoded)
				}
				continue
			}
			count++
			checkEncodeHex(t, decoded, pair, true)
		}
	}
	if count != 256 {
		t.Errorf("%d pairs can be decoded, want 256", count)
	}
}

func TestFormatInt(t *testing.T) {
	for _, c := range []struct {
		n    int
		want string
	}{
		{0, "0"}, {1, "1"}, {9, "9"}, {10, "10"}, {-1, "-1"}, {-5, "-5"}, {-10, "-10"}, {1000, "1000"},
		{impl.MaxUint, "1000000000"}, {impl.MaxUint + 1, "1000000001"},
		{math.MaxInt64, "9223372036854775807"}, {math.MinInt64, "-9223372036854775808"}, {math.MinInt64 + 1, "-9223372036854775807"},
	} {
		if got := impl.FormatInt(c.n); got != c.want {
			t.Errorf("FormatInt(%d): got %q, want %q", c.n, got, c.want)
		}
	}
}

func TestParseUint(t *testing.T) {
	checkParseUint(t, "0", 0, true)
	checkParseUint(t, "1", 1, true)
	checkParseUint(t, "9", 9, true)
	checkParseUint(t, "10", 10, true)
	checkParseUint(t, "100", 100, true)
	checkParseUint(t, "999999999", 999999999, true)
	checkParseUint(t, "1000000000", impl.MaxUint, true)
}

func TestParseUintRejects(t *testing.T) {
	for _, s := range []string{
		"", "00", "01", "007", "00000000001", "01000000000",
		"+", "-", "+0", "-0", "+5", "-5", "--5", "-1000000000",
		"1000000001", "9999999999", "10000000000", "9223372036854775807", "9223372036854775808", "18446744073709551616", "18446744073709551621",
		" ", " 1", "1 ", "1 2", "1\n", "1\x00", "1a", "a1", "a", "/", ":", "0x1", "0b1", "1e3", "1.0", "1_0", "1,000", "\xd9\xa1",
		strings.Repeat("0", impl.MaxInputLen), strings.Repeat("9", impl.MaxInputLen),
	} {
		checkParseUint(t, s, 0, false)
	}
}

func TestParsedNumbersFormatBack(t *testing.T) {
	for n := 0; n <= impl.MaxUint; n = n*3/2 + 1 {
		checkParseUint(t, impl.FormatInt(n), n, true)
	}
	for n := range 2000 {
		checkParseUint(t, impl.FormatInt(n), n, true)
		checkParseUint(t, impl.FormatInt(impl.MaxUint-n), impl.MaxUint-n, true)
		checkParseUint(t, impl.FormatInt(impl.MaxUint+1+n), 0, false)
		checkParseUint(t, impl.FormatInt(-1-n), 0, false)
	}
}

func TestSplitFields(t *testing.T) {
	checkFields(t, "")
	checkFields(t, " ")
	checkFields(t, strings.Repeat(" ", impl.MaxLineLen))
	checkFields(t, "jump", "jump")
	checkFields(t, " jump  1 ", "jump", "1")
	checkFields(t, "a b", "a", "b")
	checkFields(t, "   a   bc   ", "a", "bc")
	checkFields(t, "a a a", "a", "a", "a")
	checkFields(t, "claim 01 -x!~", "claim", "01", "-x!~")
}

func TestSplitFieldsLineLength(t *testing.T) {
	longest := strings.Repeat("x", impl.MaxLineLen)
	checkFields(t, longest, longest)
	checkFields(t, strings.Repeat(" ", impl.MaxLineLen-1)+"x", "x")
	checkNoFields(t, longest+"x")
	checkNoFields(t, longest+" ")
	checkNoFields(t, strings.Repeat(" ", impl.MaxLineLen+1))
}

func TestSplitFieldsCount(t *testing.T) {
	most := slices.Repeat([]string{"f"}, impl.MaxFieldsPerLine)
	line := strings.Join(most, " ")
	checkFields(t, line, most...)
	checkFields(t, "  "+line+"  ", most...)
	checkFields(t, strings.Join(most, "   "), most...)
	checkNoFields(t, line+" f")
	checkNoFields(t, line+" f ")
	checkNoFields(t, "f  "+line)
}

func TestSplitFieldsBytes(t *testing.T) {
	all := allBytes()
	for i := range len(all) {
		c := all[i : i+1]
		switch {
		case i < 32 || i > 126:
			checkNoFields(t, c)
			checkNoFields(t, c+"jump 1")
			checkNoFields(t, "jump"+c+"1")
			checkNoFields(t, "jump 1"+c)
			checkNoFields(t, "jump 1 "+c+" ")
		case i == 32:
			checkFields(t, "jump"+c+"1", "jump", "1")
		default:
			checkFields(t, c, c)
			checkFields(t, "jump"+c+"1", "jump"+c+"1")
		}
	}
}

func TestSplitFieldsResultsAreNew(t *testing.T) {
	line := " jump  1 "
	first, _ := impl.SplitFields(line)
	if len(first) != 2 {
		t.Fatalf("SplitFields(%q): got %q", line, first)
	}
	first[0] = "changed"
	_ = append(first[:1], "changed")
	checkFields(t, line, "jump", "1")
}

func TestClamp(t *testing.T) {
	for _, c := range []struct{ n, low, high, want int }{
		{9, 1, 5, 5}, {0, 1, 5, 1}, {3, 1, 5, 3}, {1, 1, 5, 1}, {5, 1, 5, 5}, {6, 1, 5, 5},
		{-9, -5, -1, -5}, {0, -5, -1, -1}, {-3, -5, -1, -3},
		{7, 4, 4, 4}, {4, 4, 4, 4}, {1, 4, 4, 4},
		{9, 5, 1, 5}, {3, 5, 1, 5}, {0, 5, 1, 5}, {5, 5, 1, 5}, {1, 5, 1, 5}, {0, 1, 0, 1},
		{math.MaxInt64, math.MinInt64, 0, 0}, {math.MinInt64, 0, math.MaxInt64, 0},
		{math.MinInt64, math.MinInt64, math.MaxInt64, math.MinInt64}, {math.MaxInt64, math.MinInt64, math.MaxInt64, math.MaxInt64},
		{0, math.MaxInt64, math.MinInt64, math.MaxInt64},
	} {
		if got := impl.Clamp(c.n, c.low, c.high); got != c.want {
			t.Errorf("Clamp(%d, %d, %d): got %d, want %d", c.n, c.low, c.high, got, c.want)
		}
	}
}

func TestClampedValuesAreInTheRange(t *testing.T) {
	for low := -4; low <= 4; low++ {
		for high := low; high <= 4; high++ {
			for n := -6; n <= 6; n++ {
				got := impl.Clamp(n, low, high)
				if got < low || got > high || got != n && n >= low && n <= high {
					t.Errorf("Clamp(%d, %d, %d): got %d", n, low, high, got)
				}
			}
		}
	}
}
