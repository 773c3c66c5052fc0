package tests

import (
	"math"
	"slices"
	"strconv"
	"strings"
	"testing"

	"loop.example/g03108/impl"
)

const (
	largestNumber  = 999999
	largestInteger = 999999999999
	longestJoin    = 1048576
)

// sampleInts are the integers around 0, around the powers of two and ten, and
// around the limits, with both signs.
func sampleInts() []int {
	list := []int{math.MinInt, math.MinInt + 1, math.MaxInt, math.MaxInt - 1}
	near := func(n int) {
		for d := -3; d <= 3; d++ {
			list = append(list, n+d, -(n + d))
		}
	}
	for n, i := 1, 0; i < 19; n, i = n*10, i+1 {
		near(n)
	}
	for i := 0; i < 62; i++ {
		near(1 << i)
	}
	for n := 0; n < 1200; n++ {
		list = append(list, n, -n)
	}
	return append(list, 123456789012345678, -987654321098765432)
}

func TestFormatInt(t *testing.T) {
	for n, want := range map[int]string{
		0:             "0",
		7:             "7",
		-7:            "-7",
		10:            "10",
		-100:          "-100",
		1024:          "1024",
		math.MaxInt:   "9223372036854775807",
		math.MinInt:   "-9223372036854775808",
		-999999999999: "-999999999999",
	} {
		if got := impl.FormatInt(n); got != want {
			t.Errorf("FormatInt(%d) = %q, want %q", n, got, want)
		}
	}
	for _, n := range sampleInts() {
		if got, want := impl.FormatInt(n), strconv.Itoa(n); got != want {
			t.Errorf("FormatInt(%d) = %q", n, got)
		}
	}
}

// wantParsed is what a parser with these limits gives: by the library's reading
// and writing of integers, not by the program's.
func wantParsed(s string, least, most int) (int, bool) {
	n, err := strconv.Atoi(s)
	if err != nil || strconv.Itoa(n) != s || n < least || n > most {
		return 0, false
	}
	return n, true
}

func checkParsed(t *testing.T, s string) {
	t.Helper()
	n, ok := impl.ParseNumber(s)
	if want, wantOk := wantParsed(s, 0, largestNumber); n != want || ok != wantOk {
		t.Errorf("ParseNumber(%q) = %d, %v, want %d, %v", s, n, ok, want, wantOk)
	}
	n, ok = impl.ParseInt(s)
	if want, wantOk := wantParsed(s, -largestInteger, largestInteger); n != want || ok != wantOk {
		t.Errorf("ParseInt(%q) = %d, %v, want %d, %v", s, n, ok, want, wantOk)
	}
}

func TestDecimalFormsAreReadAgain(t *testing.T) {
	for _, n := range sampleInts() {
		s := impl.FormatInt(n)
		got, ok := impl.ParseNumber(s)
		if in := n >= 0 && n <= largestNumber; ok != in || in && got != n || !in && got != 0 {
			t.Errorf("ParseNumber(FormatInt(%d)) = %d, %v", n, got, ok)
		}
		got, ok = impl.ParseInt(s)
		if in := n >= -largestInteger && n <= largestInteger; ok != in || in && got != n || !in && got != 0 {
			t.Errorf("ParseInt(FormatInt(%d)) = %d, %v", n, got, ok)
		}
	}
}

func TestParseLimits(t *testing.T) {
	for _, c := range []struct {
		s         string
		n         int
		number    bool
		isInteger bool
	}{
		{"0", 0, true, true},
		{"1", 1, true, true},
		{"999999", 999999, true, true},
		{"1000000", 1000000, false, true},
		{"999999999999", 999999999999, false, true},
		{"1000000000000", 0, false, false},
		{"-1", -1, false, true},
		{"-999999", -999999, false, true},
		{"-999999999999", -999999999999, false, true},
		{"-1000000000000", 0, false, false},
		{"9223372036854775807", 0, false, false},
		{"-9223372036854775808", 0, false, false},
		{"18446744073709551616", 0, false, false},
		{"18446744073709551617", 0, false, false},
	} {
		n, ok := impl.ParseNumber(c.s)
		if ok != c.number || ok && n != c.n || !ok && n != 0 {
			t.Errorf("ParseNumber(%q) = %d, %v", c.s, n, ok)
		}
		n, ok = impl.ParseInt(c.s)
		if ok != c.isInteger || ok && n != c.n || !ok && n != 0 {
			t.Errorf("ParseInt(%q) = %d, %v", c.s, n, ok)
		}
	}
}

func TestParseRejects(t *testing.T) {
	for _, s := range []string{
		"", "-", "+", "--1", "+1", "-+1", "-0", "-00", "+0", "00", "007", "-007", "01",
		" 1", "1 ", "-1 ", "- 1", "1-", "1.0", "1e3", "1_000", "0x10", "a", "1a", "a1",
		"\x00", "1\x00", "\xff", "1\n", "٣", "−1", "12,3", "/", ":", "1/", "1:",
		"0000000000000000000000000001", strings.Repeat("9", 1000), strings.Repeat("0", 1000),
		"-" + strings.Repeat("9", 100000), strings.Repeat("1", 100000),
	} {
		if n, ok := impl.ParseNumber(s); n != 0 || ok {
			t.Errorf("ParseNumber(%.40q) = %d, %v", s, n, ok)
		}
		if n, ok := impl.ParseInt(s); n != 0 || ok {
			t.Errorf("ParseInt(%.40q) = %d, %v", s, n, ok)
		}
	}
}

// TestParseShortStrings goes through all strings of at most four bytes of a
// small alphabet, and all of at most two bytes.
func TestParseShortStrings(t *testing.T) {
	strs := []string{""}
	for range 5 {
		var longer []string
		for _, s := range strs {
			checkParsed(t, s)
			for _, c := range "-+019 /:" {
				longer = append(longer, s+string(c))
			}
		}
		strs = longer
	}
	for a := range 256 {
		checkParsed(t, string([]byte{byte(a)}))
		for b := range 256 {
			checkParsed(t, string([]byte{byte(a), byte(b)}))
		}
	}
}

func TestSplitByte(t *testing.T) {
	for _, c := range []struct {
		s    string
		by   byte
		want []string
	}{
		{"", ',', []string{""}},
		{",", ',', []string{"", ""}},
		{",,", ',', []string{"", "", ""}},
		{"a", ',', []string{"a"}},
		{"a,,b", ',', []string{"a", "", "b"}},
		{",a,", ',', []string{"", "a", ""}},
		{"one two  three", ' ', []string{"one", "two", "", "three"}},
		{"a\nb\n", '\n', []string{"a", "b", ""}},
		{"a\x00b", 0, []string{"a", "b"}},
		{"\xffa\xff", 0xff, []string{"", "a", ""}},
		// The two bytes of this letter are parted, for strings are bytes here.
		{"é", 0xa9, []string{"\xc3", ""}},
		{"é", 0xe9, []string{"é"}},
	} {
		if got := impl.SplitByte(c.s, c.by); !slices.Equal(got, c.want) {
			t.Errorf("SplitByte(%q, %q) = %q, want %q", c.s, c.by, got, c.want)
		}
	}
}

func TestSplitByteCoversAllBytes(t *testing.T) {
	every := make([]byte, 256)
	for i := range every {
		every[i] = byte(i)
	}
	s := string(every)
	for by := range 256 {
		want := []string{s[:by], s[by+1:]}
		got := impl.SplitByte(s, byte(by))
		if !slices.Equal(got, want) {
			t.Errorf("SplitByte of all bytes by %d = %q", by, got)
		}
		if impl.Join(got, string([]byte{byte(by)})) != s {
			t.Errorf("Join does not undo SplitByte by %d", by)
		}
	}
}

func TestSplitByteLongString(t *testing.T) {
	got := impl.SplitByte(strings.Repeat("ab,", 500000), ',')
	if len(got) != 500001 || got[0] != "ab" || got[499999] != "ab" || got[500000] != "" {
		t.Errorf("SplitByte of a long string gives %d parts", len(got))
	}
}

func TestJoin(t *testing.T) {
	for _, c := range []struct {
		list []string
		by   string
		want string
	}{
		{nil, ",", ""},
		{[]string{}, ",", ""},
		{[]string{""}, ",", ""},
		{[]string{"a"}, ",", "a"},
		{[]string{"", ""}, ",", ","},
		{[]string{"a", "", "b"}, ",", "a,,b"},
		{[]string{"a", "b", "c"}, "", "abc"},
		{[]string{"a", "b", "c"}, ". ", "a. b. c"},
		{[]string{"", "", ""}, "", ""},
		{[]string{"\xff", "\x00"}, "\xc3", "\xff\xc3\x00"},
	} {
		if got := impl.Join(c.list, c.by); got != c.want {
			t.Errorf("Join(%q, %q) = %q, want %q", c.list, c.by, got, c.want)
		}
	}
}

func TestJoinLimit(t *testing.T) {
	full := strings.Repeat("x", longestJoin)
	half := strings.Repeat("y", longestJoin/2)
	ones := slices.Repeat([]string{"z"}, longestJoin/2)
	for _, c := range []struct {
		what string
		list []string
		by   string
		fits bool
	}{
		{"one full element", []string{full}, "", true},
		{"one full element and a long separator that is not used", []string{full}, full, true},
		{"one element too long", []string{full + "x"}, "", false},
		{"two halves", []string{half, half}, "", true},
		{"two halves and a separator", []string{half, half}, ",", false},
		{"two halves, one byte less, and a separator", []string{half, half[1:]}, ",", true},
		{"two halves and another byte", []string{half, half, "x"}, "", false},
		{"a full separator", []string{"", ""}, full, true},
		{"a full separator twice", []string{"", "", ""}, full, false},
		{"a separator too long", []string{"", ""}, full + "x", false},
		{"many elements", append([]string{""}, ones...), ",", true},
		{"many elements and a byte", append([]string{"x"}, ones...), ",", false},
		{"much too long", slices.Repeat([]string{full}, 100000), full, false},
	} {
		want := ""
		if c.fits {
			want = strings.Join(c.list, c.by)
		}
		if got := impl.Join(c.list, c.by); got != want {
			t.Errorf("%s: Join gives %d bytes, want %d", c.what, len(got), len(want))
		}
	}
}

func TestTextLeavesArguments(t *testing.T) {
	memory := []string{"a", "b", "c", "spare", "room"}
	before := slices.Clone(memory)
	first := impl.Join(memory[:3], ", ")
	if second := impl.Join(memory[:3], ", "); first != "a, b, c" || second != first {
		t.Errorf("Join gives %q, then %q", first, second)
	}
	impl.Join(slices.Repeat(memory, longestJoin), ", ")
	if !slices.Equal(memory, before) {
		t.Errorf("Join changes its list to %q", memory)
	}
}

func TestTextResultsAreNew(t *testing.T) {
	for _, s := range []string{"", "a", "a,b,c"} {
		first := impl.SplitByte(s, ',')
		second := impl.SplitByte(s, ',')
		want := slices.Clone(second)
		for i := range first {
			first[i] = "changed"
		}
		if rest := first[len(first):cap(first)]; len(rest) > 0 {
			rest[0] = "changed"
		}
		if !slices.Equal(second, want) || !slices.Equal(impl.SplitByte(s, ','), want) {
			t.Errorf("results of SplitByte(%q) share memory", s)
		}
	}
}
