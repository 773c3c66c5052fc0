package tests

import (
	"math"
	"regexp"
	"slices"
	"strconv"
	"strings"
	"testing"

	"loop.example/g03108/impl"
)

// operators, markList and words are those of the document, in its order.
var (
	operators = []string{"//", `\\`, "<=", ">=", "==", "~=", "~~", "+", "-", "*", "<", ">", "=", ",", "&"}
	markList  = []string{":=", "^", ".", ";", "[", "]", "(", ")", "|", ":"}
	words     = []string{"class", "extends", "fields", "method", "classmethod", "end", "main"}
)

const (
	longName    = "a2345678901234567890"
	tooLongName = "a23456789012345678901"
)

func named(text string) impl.Token   { return impl.Token{Kind: impl.TokName, Text: text} }
func keyed(text string) impl.Token   { return impl.Token{Kind: impl.TokKeyword, Text: text} }
func numbered(n int) impl.Token      { return impl.Token{Kind: impl.TokInt, Number: n} }
func quoted(text string) impl.Token  { return impl.Token{Kind: impl.TokText, Text: text} }
func hashed(text string) impl.Token  { return impl.Token{Kind: impl.TokSymbol, Text: text} }
func binary(text string) impl.Token  { return impl.Token{Kind: impl.TokBinary, Text: text} }
func mark(text string) impl.Token    { return impl.Token{Kind: impl.TokMark, Text: text} }
func wordTok(text string) impl.Token { return impl.Token{Kind: impl.TokWord, Text: text} }

// abridged keeps messages about long sources short.
func abridged(tokens []impl.Token) []impl.Token {
	return tokens[:min(len(tokens), 30)]
}

func checkTokens(t *testing.T, s string, want ...impl.Token) {
	t.Helper()
	got, ok := impl.Tokens(s)
	if !ok || !slices.Equal(got, want) {
		t.Errorf("Tokens(%.100q) = %v, %v, want %v", s, abridged(got), ok, abridged(want))
	}
}

func checkNoTokens(t *testing.T, s string) {
	t.Helper()
	if got, ok := impl.Tokens(s); ok || len(got) > 0 {
		t.Errorf("Tokens(%.100q) = %v, %v", s, abridged(got), ok)
	}
}

func TestTokenNumbersOfKinds(t *testing.T) {
	kinds := []int{
		impl.TokName, impl.TokKeyword, impl.TokInt, impl.TokText,
		impl.TokSymbol, impl.TokBinary, impl.TokMark, impl.TokWord,
	}
	if !slices.Equal(kinds, []int{1, 2, 3, 4, 5, 6, 7, 8}) {
		t.Error(kinds)
	}
	limits := []int{impl.MaxSource, impl.MaxTokens, impl.MaxName, impl.MaxInt}
	if !slices.Equal(limits, []int{4000, 800, 20, 999999999}) {
		t.Error(limits)
	}
}

func TestSelectorsCountTheirArguments(t *testing.T) {
	for s, want := range map[string]int{
		"a": 0, "Z": 0, "size": 0, "x9": 0, "classes": 0, "Class": 0, longName: 0,
		"a:": 1, "class:": 1, "end:": 1, longName + ":": 1,
		"at:put:": 2, "main:end:": 2,
		"a:b:c:": 3, "a:b:c:d:": 4, "a:a:a:a:": 4,
		longName + ":" + longName + ":" + longName + ":" + longName + ":": 4,
		"a:b:c:d:e:": -1, "a:b:c:d:e:f:g:h:": -1,
		"": -1, ":": -1, "::": -1, "a::": -1, ":a": -1, ":a:": -1, "a:b": -1, "at:put": -1,
		"a: ": -1, " a": -1, "a ": -1, "a b:": -1, "a: b:": -1,
		"1": -1, "1a": -1, "1:": -1, "a:1:": -1, "a:1b:": -1, "a_": -1, "a-": -1, "_": -1,
		"a:=": -1, ":=": -1, "a:=:": -1,
		tooLongName: -1, tooLongName + ":": -1, "a:" + tooLongName + ":": -1,
		"+:": -1, "++": -1, "+a": -1, "/": -1, `\`: -1, "~": -1, "<>": -1, "===": -1, "=<": -1, "--": -1, " +": -1, "+ ": -1,
		"#a": -1, "'a'": -1, "é": -1, "aé": -1, "a\xff": -1, "\xff:": -1, "a\x00": -1, "\x00": -1, "ａ": -1, "a٣": -1,
		strings.Repeat("a", 100000): -1, strings.Repeat(":", 100000): -1, strings.Repeat("a:", 100000): -1,
	} {
		if got := impl.CountArgs(s); got != want {
			t.Errorf("CountArgs(%.50q) = %d, want %d", s, got, want)
		}
		if got := impl.IsSelector(s); got != (want >= 0) {
			t.Errorf("IsSelector(%.50q) = %v", s, got)
		}
		if got := impl.IsName(s); got != (want == 0) {
			t.Errorf("IsName(%.50q) = %v", s, got)
		}
	}
}

func TestSelectorsOfSigns(t *testing.T) {
	for _, s := range operators {
		if impl.CountArgs(s) != 1 || !impl.IsSelector(s) || impl.IsName(s) {
			t.Errorf("%q is a binary operator", s)
		}
	}
	for _, s := range markList {
		if impl.CountArgs(s) != -1 || impl.IsSelector(s) || impl.IsName(s) {
			t.Errorf("%q is no selector", s)
		}
	}
}

func TestWords(t *testing.T) {
	for _, s := range words {
		if impl.IsName(s) || impl.IsSelector(s) || impl.CountArgs(s) != -1 {
			t.Errorf("%q is no name", s)
		}
		if impl.CountArgs(s+":") != 1 || impl.CountArgs("a:"+s+":") != 2 || impl.CountArgs(s+"s") != 0 {
			t.Errorf("%q is no part of a selector", s)
		}
		checkTokens(t, s, wordTok(s))
		checkTokens(t, s+":", keyed(s+":"))
		checkTokens(t, s+" :", wordTok(s), mark(":"))
		checkTokens(t, s+":=", wordTok(s), mark(":="))
		checkTokens(t, s+"x", named(s+"x"))
		checkTokens(t, strings.ToUpper(s), named(strings.ToUpper(s)))
		checkTokens(t, "#"+s+":", hashed(s+":"))
		checkTokens(t, "'"+s+"'", quoted(s))
		checkNoTokens(t, "#"+s)
		checkNoTokens(t, "#"+s+":=")
	}
}

// TestNamesByteByByte tries each byte alone, first, second and as the only
// sign behind a part.
func TestNamesByteByByte(t *testing.T) {
	letter := regexp.MustCompile(`^[A-Za-z]$`)
	digit := regexp.MustCompile(`^[0-9]$`)
	for b := range 256 {
		s := string([]byte{byte(b)})
		isLetter, isDigit := letter.MatchString(s), digit.MatchString(s)
		if got := impl.IsName(s); got != isLetter {
			t.Errorf("IsName(%q) = %v", s, got)
		}
		if got := impl.IsName("q" + s); got != (isLetter || isDigit) {
			t.Errorf("IsName(%q) = %v", "q"+s, got)
		}
		if got := impl.IsName(s + "q"); got != isLetter {
			t.Errorf("IsName(%q) = %v", s+"q", got)
		}
		if got := impl.IsSelector(s); got != (isLetter || slices.Contains(operators, s)) {
			t.Errorf("IsSelector(%q) = %v", s, got)
		}
		if got := impl.IsSelector("q" + s); got != (isLetter || isDigit || s == ":") {
			t.Errorf("IsSelector(%q) = %v", "q"+s, got)
		}
	}
}

func TestTokensOfColons(t *testing.T) {
	checkTokens(t, "a:", keyed("a:"))
	checkTokens(t, "a: ", keyed("a:"))
	checkTokens(t, "a:b", keyed("a:"), named("b"))
	checkTokens(t, "a:b:", keyed("a:"), keyed("b:"))
	checkTokens(t, "a:1", keyed("a:"), numbered(1))
	checkTokens(t, "a::", keyed("a:"), mark(":"))
	checkTokens(t, "a::b", keyed("a:"), mark(":"), named("b"))
	checkTokens(t, "a: =", keyed("a:"), binary("="))
	checkTokens(t, "a:=", named("a"), mark(":="))
	checkTokens(t, "a:=b", named("a"), mark(":="), named("b"))
	checkTokens(t, "a:==b", named("a"), mark(":="), binary("="), named("b"))
	checkTokens(t, "a::=", keyed("a:"), mark(":="))
	checkTokens(t, "a :=b", named("a"), mark(":="), named("b"))
	checkTokens(t, "a :b", named("a"), mark(":"), named("b"))
	checkTokens(t, "a\"\":b", named("a"), mark(":"), named("b"))
	checkTokens(t, ":a", mark(":"), named("a"))
	checkTokens(t, ":a:b", mark(":"), keyed("a:"), named("b"))
	checkTokens(t, ":=", mark(":="))
	checkTokens(t, ": =", mark(":"), binary("="))
	checkTokens(t, "::", mark(":"), mark(":"))
	checkTokens(t, "1:", numbered(1), mark(":"))
	checkTokens(t, "1:=2", numbered(1), mark(":="), numbered(2))
}

func TestTokensOfSymbols(t *testing.T) {
	checkTokens(t, "#a", hashed("a"))
	checkTokens(t, "#a:", hashed("a:"))
	checkTokens(t, "#a:b", hashed("a:"), named("b"))
	checkTokens(t, "#a:b:", hashed("a:b:"))
	checkTokens(t, "#a: b:", hashed("a:"), keyed("b:"))
	checkTokens(t, "#a:b:c", hashed("a:b:"), named("c"))
	checkTokens(t, "#a:b:c:", hashed("a:b:c:"))
	checkTokens(t, "#a:b:c:d:", hashed("a:b:c:d:"))
	checkTokens(t, "#a:b:c:d:e", hashed("a:b:c:d:"), named("e"))
	checkNoTokens(t, "#a:b:c:d:e:")
	checkTokens(t, "#a:b:c:d:e:=", hashed("a:b:c:d:"), named("e"), mark(":="))
	checkTokens(t, "#a:=", hashed("a"), mark(":="))
	checkTokens(t, "#a:b:=", hashed("a:"), named("b"), mark(":="))
	checkTokens(t, "#a::", hashed("a:"), mark(":"))
	checkTokens(t, "#a::=", hashed("a:"), mark(":="))
	checkTokens(t, "#a :", hashed("a"), mark(":"))
	checkTokens(t, "#a:class", hashed("a:"), wordTok("class"))
	checkTokens(t, "#a:class:", hashed("a:class:"))
	checkTokens(t, "#a:1", hashed("a:"), numbered(1))
	checkTokens(t, "#a#b", hashed("a"), hashed("b"))
	checkTokens(t, "#a'b'", hashed("a"), quoted("b"))
	checkTokens(t, "#"+longName, hashed(longName))
	checkTokens(t, "#"+longName+":b:", hashed(longName+":b:"))
	checkTokens(t, "#b:"+longName+":", hashed("b:"+longName+":"))
	for _, s := range []string{
		"#", "# ", "# a", "##", "##a", "#1", "#1a", "#1:", "#a:1:", "#a:1b:", "#:", "#:a", "#:=", "#'a'", "#\"c\"a",
		"#^", "#.", "#;", "#[", "#]", "#(", "#)", "#|", "#/", `#\`, "#~", "#_", "#é", "#\xff",
		"#" + tooLongName, "#" + tooLongName + ":", "#b:" + tooLongName + ":",
	} {
		checkNoTokens(t, s)
	}
	for _, s := range operators {
		checkTokens(t, "#"+s, hashed(s))
		checkTokens(t, "#"+s+"a:", hashed(s), keyed("a:"))
	}
	checkTokens(t, "#<<=", hashed("<"), binary("<="))
	checkTokens(t, "#<=>", hashed("<="), binary(">"))
	checkTokens(t, "#<>", hashed("<"), binary(">"))
	checkTokens(t, "#===", hashed("=="), binary("="))
	checkTokens(t, "#=:=", hashed("="), mark(":="))
	checkTokens(t, "#--1", hashed("-"), binary("-"), numbered(1))
}

func TestTokensOfSigns(t *testing.T) {
	for _, s := range operators {
		checkTokens(t, s, binary(s))
		checkTokens(t, "a"+s+"1", named("a"), binary(s), numbered(1))
	}
	for _, s := range markList {
		checkTokens(t, s, mark(s))
		checkTokens(t, "1"+s+"a", numbered(1), mark(s), named("a"))
	}
	checkTokens(t, "<=>=", binary("<="), binary(">="))
	checkTokens(t, "<==", binary("<="), binary("="))
	checkTokens(t, "===", binary("=="), binary("="))
	checkTokens(t, "====", binary("=="), binary("=="))
	checkTokens(t, "=<=", binary("="), binary("<="))
	checkTokens(t, ">>=", binary(">"), binary(">="))
	checkTokens(t, "><", binary(">"), binary("<"))
	checkTokens(t, "~=~~", binary("~="), binary("~~"))
	checkTokens(t, "~==", binary("~="), binary("="))
	checkTokens(t, "~~=", binary("~~"), binary("="))
	checkTokens(t, "+-*", binary("+"), binary("-"), binary("*"))
	checkTokens(t, "-1", binary("-"), numbered(1))
	checkTokens(t, "3--1", numbered(3), binary("-"), binary("-"), numbered(1))
	checkTokens(t, "////", binary("//"), binary("//"))
	checkTokens(t, ":=:=::=", mark(":="), mark(":="), mark(":"), mark(":="))
	checkTokens(t, ":= =:", mark(":="), binary("="), mark(":"))
	checkTokens(t, "[:x||y|^(x,y);z.]", mark("["), mark(":"), named("x"), mark("|"), mark("|"), named("y"),
		mark("|"), mark("^"), mark("("), named("x"), binary(","), named("y"), mark(")"), mark(";"), named("z"),
		mark("."), mark("]"))
	for _, s := range []string{"/", "///", `\`, `\\\`, "~", "~~~", "~<", "a/b", "a~b"} {
		checkNoTokens(t, s)
	}
}

// TestTokensByteByByte tries each byte alone, between names, in a text and in a
// comment.
func TestTokensByteByByte(t *testing.T) {
	for b := range 256 {
		s := string([]byte{byte(b)})
		comment := "a\"" + s + "\"b"
		if s == `"` {
			checkNoTokens(t, comment)
		} else {
			checkTokens(t, comment, named("a"), named("b"))
		}
		text := "'" + s + "'"
		if b >= 32 && b <= 126 && s != "'" {
			checkTokens(t, text, quoted(s))
		} else {
			checkNoTokens(t, text)
		}
		switch {
		case strings.Contains(" \n\t", s):
			checkTokens(t, s)
			checkTokens(t, "a"+s+"b", named("a"), named("b"))
		case impl.IsName(s):
			checkTokens(t, s, named(s))
		case strings.Contains("0123456789", s):
			checkTokens(t, s, numbered(b-'0'))
		case slices.Contains(operators, s):
			checkTokens(t, "a"+s+"b", named("a"), binary(s), named("b"))
		case s == ":":
			checkTokens(t, "a"+s+"b", keyed("a:"), named("b"))
		case slices.Contains(markList, s):
			checkTokens(t, "a"+s+"b", named("a"), mark(s), named("b"))
		case s == "#":
			checkTokens(t, "a"+s+"b", named("a"), hashed("b"))
			checkNoTokens(t, "a "+s)
		default:
			checkNoTokens(t, s)
			checkNoTokens(t, "a"+s+"b")
			checkNoTokens(t, "a "+s)
		}
	}
}

func TestTokensOfNamesAndNumbers(t *testing.T) {
	checkTokens(t, "x1Y", named("x1Y"))
	checkTokens(t, longName, named(longName))
	checkTokens(t, longName+":", keyed(longName+":"))
	checkTokens(t, longName+":=", named(longName), mark(":="))
	checkTokens(t, longName+" "+longName, named(longName), named(longName))
	checkNoTokens(t, tooLongName)
	checkNoTokens(t, tooLongName+":")
	checkNoTokens(t, tooLongName+":=1")
	checkTokens(t, "0", numbered(0))
	checkTokens(t, "007", numbered(7))
	checkTokens(t, "000000000", numbered(0))
	checkTokens(t, "000000012", numbered(12))
	checkTokens(t, "999999999", numbered(impl.MaxInt))
	checkTokens(t, "12 34", numbered(12), numbered(34))
	checkTokens(t, "1.2", numbered(1), mark("."), numbered(2))
	for _, s := range []string{
		"1000000000", "0000000000", "0000000001", "9999999999", "99999999999999999999", "1a", "1A", "12z3",
		"123456789a", "x 1y", "1é", "1_",
	} {
		checkNoTokens(t, s)
	}
}

func TestTokensOfTexts(t *testing.T) {
	full := strings.Repeat("x", 40)
	checkTokens(t, "''", quoted(""))
	checkTokens(t, "'a'", quoted("a"))
	checkTokens(t, "''''", quoted("'"))
	checkTokens(t, "''''''", quoted("''"))
	checkTokens(t, "'it''s'", quoted("it's"))
	checkTokens(t, "'''a'", quoted("'a"))
	checkTokens(t, "'a'''", quoted("a'"))
	checkTokens(t, "'a'''''", quoted("a''"))
	checkTokens(t, "'a' 'b'", quoted("a"), quoted("b"))
	checkTokens(t, "'a'b'c'", quoted("a"), named("b"), quoted("c"))
	checkTokens(t, "a'b'", named("a"), quoted("b"))
	checkTokens(t, "1'b'", numbered(1), quoted("b"))
	checkTokens(t, `'"' x`, quoted(`"`), named("x"))
	checkTokens(t, `'"' '"'`, quoted(`"`), quoted(`"`))
	checkTokens(t, "' ~'", quoted(" ~"))
	checkTokens(t, "'"+full+"'", quoted(full))
	checkTokens(t, "'"+strings.Repeat("''", 40)+"'", quoted(strings.Repeat("'", 40)))
	checkTokens(t, "'"+full[1:]+"'''", quoted(full[1:]+"'"))
	for _, s := range []string{
		"'", "'a", "'''", "'''''", "'a''", "'a''b", "a'", "'a'b'", "'a' '",
		"'" + full + "x'", "'" + full + "'''", "'" + strings.Repeat("''", 41) + "'",
		"'a\nb'", "'a\tb'", "'\x1f'", "'\x7f'", "'\x80'", "'\xff'", "'é'", "'a\x00'", "'\x00'",
	} {
		checkNoTokens(t, s)
	}
}

func TestTokensOfCommentsAndBlanks(t *testing.T) {
	checkTokens(t, "")
	checkTokens(t, " \n\t ")
	checkTokens(t, `""`)
	checkTokens(t, `"a comment"`)
	checkTokens(t, ` "one" "two" `)
	checkTokens(t, `"one""two"`)
	checkTokens(t, `"it's"`)
	checkTokens(t, "\"over\nlines, é and \xff\"x", named("x"))
	checkTokens(t, `"'"x"'"`, named("x"))
	checkTokens(t, `a"b"c`, named("a"), named("c"))
	checkTokens(t, `1"b"2`, numbered(1), numbered(2))
	checkTokens(t, `<"b"=`, binary("<"), binary("="))
	checkTokens(t, "a\n\tb  c\n", named("a"), named("b"), named("c"))
	for _, s := range []string{`"`, `"a`, `a"`, `"a""`, `"a"b"`, `"'"'`, `'"'"`, "a\r\nb", "\r", "\v", "\f", "\xc2\xa0"} {
		checkNoTokens(t, s)
	}
}

func TestTokensLimits(t *testing.T) {
	atLimit := "x" + strings.Repeat(" ", impl.MaxSource-1)
	checkTokens(t, atLimit, named("x"))
	checkNoTokens(t, atLimit+" ")
	checkTokens(t, strings.Repeat(" ", impl.MaxSource))
	checkNoTokens(t, strings.Repeat(" ", impl.MaxSource+1))
	checkTokens(t, `"`+strings.Repeat("c", impl.MaxSource-2)+`"`)
	checkNoTokens(t, `"`+strings.Repeat("c", impl.MaxSource-1)+`"`)
	for _, unit := range []string{"a ", "1 ", "+", ".", "'' ", "#a", "end ", "at:"} {
		one, ok := impl.Tokens(unit)
		if !ok || len(one) != 1 {
			t.Fatal(unit, one, ok)
		}
		checkTokens(t, strings.Repeat(unit, impl.MaxTokens), slices.Repeat(one, impl.MaxTokens)...)
		checkNoTokens(t, strings.Repeat(unit, impl.MaxTokens+1))
	}
	checkTokens(t, strings.Repeat(".", impl.MaxTokens)+` "end"`, slices.Repeat([]impl.Token{mark(".")}, impl.MaxTokens)...)
	checkNoTokens(t, strings.Repeat(".", impl.MaxSource))
	checkNoTokens(t, strings.Repeat("'", impl.MaxSource-1))
	checkNoTokens(t, strings.Repeat("a", 1<<20))
}

func TestFormatToken(t *testing.T) {
	for _, c := range []struct {
		token impl.Token
		want  string
	}{
		{named("size"), "size"},
		{keyed("at:"), "at:"},
		{numbered(0), "0"},
		{numbered(999999999), "999999999"},
		{quoted(""), "''"},
		{quoted("it's"), "'it''s'"},
		{quoted("''"), "''''''"},
		{quoted(`"a"`), `'"a"'`},
		{hashed("at:put:"), "#at:put:"},
		{hashed("+"), "#+"},
		{binary("<="), "<="},
		{mark(":="), ":="},
		{wordTok("class"), "class"},
		// Tokens that no source has are printed as well.
		{impl.Token{}, ""},
		{impl.Token{Text: "it's", Number: 3}, "it's"},
		{impl.Token{Kind: 9, Text: "a", Number: 3}, "a"},
		{impl.Token{Kind: -1, Text: "#"}, "#"},
		{impl.Token{Kind: impl.TokInt, Text: "a", Number: -5}, "-5"},
		{numbered(math.MinInt), strconv.Itoa(math.MinInt)},
		{impl.Token{Kind: impl.TokText, Text: "é'\xff\n", Number: 3}, "'é''\xff\n'"},
		{hashed(""), "#"},
		{hashed("it's"), "#it's"},
		{impl.Token{Kind: impl.TokName, Text: "it's", Number: 4}, "it's"},
		{impl.Token{Kind: impl.TokMark, Text: "'", Number: 4}, "'"},
	} {
		if got := impl.FormatToken(c.token); got != c.want {
			t.Errorf("FormatToken(%v) = %q, want %q", c.token, got, c.want)
		}
	}
}

// oracle reads tokens by regular expressions, as a second opinion.
type oracle struct {
	blank, word, digits, text, parts, sign *regexp.Regexp
}

func newOracle() oracle {
	var signs []string
	for _, s := range slices.Concat(operators, markList) {
		signs = append(signs, regexp.QuoteMeta(s))
	}
	return oracle{
		blank:  regexp.MustCompile(`^(?:[ \n\t]|"[^"]*")+`),
		word:   regexp.MustCompile(`^[A-Za-z][A-Za-z0-9]*`),
		digits: regexp.MustCompile(`^[0-9]+`),
		text:   regexp.MustCompile(`^'(?:''|[^'])*'`),
		parts:  regexp.MustCompile(`^(?:[A-Za-z0-9]+:)+`),
		sign:   regexp.MustCompile(`^(?:` + strings.Join(signs, "|") + `)`),
	}
}

func (o oracle) tokens(s string) ([]impl.Token, bool) {
	var list []impl.Token
	for {
		s = s[len(o.blank.FindString(s)):]
		if s == "" {
			return list, true
		}
		token, length := o.token(s)
		if length == 0 {
			return nil, false
		}
		list, s = append(list, token), s[length:]
	}
}

func (o oracle) token(s string) (impl.Token, int) {
	if word := o.word.FindString(s); word != "" {
		rest := s[len(word):]
		if strings.HasPrefix(rest, ":") && !strings.HasPrefix(rest, ":=") {
			return keyed(word + ":"), len(word) + 1
		}
		if slices.Contains(words, word) {
			return wordTok(word), len(word)
		}
		return named(word), len(word)
	}
	if digits := o.digits.FindString(s); digits != "" {
		n, err := strconv.Atoi(digits)
		if err != nil || len(digits) > 9 || o.word.MatchString(s[len(digits):]) {
			return impl.Token{}, 0
		}
		return numbered(n), len(digits)
	}
	if text := o.text.FindString(s); text != "" {
		inner := strings.ReplaceAll(text[1:len(text)-1], "''", "'")
		if strings.Trim(inner, " !\"#$%&'()*+,-./0123456789:;<=>?@[\\]^_`{|}~abcdefghijklmnopqrstuvwxyzABCDEFGHIJKLMNOPQRSTUVWXYZ") != "" {
			return impl.Token{}, 0
		}
		return quoted(inner), len(text)
	}
	if s[0] == '#' {
		return o.symbol(s[1:])
	}
	sign := o.sign.FindString(s)
	if slices.Contains(operators, sign) {
		return binary(sign), len(sign)
	}
	return mark(sign), len(sign)
}

func (o oracle) symbol(s string) (impl.Token, int) {
	text := o.sign.FindString(s)
	if text == "" {
		text = o.parts.FindString(s)
		if strings.HasPrefix(s[len(text):], "=") {
			text = text[:strings.LastIndex(":"+strings.TrimSuffix(text, ":"), ":")]
		}
		if text == "" {
			text = o.word.FindString(s)
		}
		if slices.Contains(words, text) || o.digits.MatchString(text) || strings.Contains(text, ":1") || strings.Count(text, ":") > 4 {
			return impl.Token{}, 0
		}
	}
	if text == "" || slices.Contains(markList, text) {
		return impl.Token{}, 0
	}
	return hashed(text), len(text) + 1
}

// TestTokensOfShortSources compares all sources of a few pieces with what the
// regular expressions read, and reads again what FormatToken writes.
func TestTokensOfShortSources(t *testing.T) {
	o := newOracle()
	var checkFrom func(s string, more int)
	checkFrom = func(s string, more int) {
		want, wantOk := o.tokens(s)
		got, ok := impl.Tokens(s)
		if ok != wantOk || !slices.Equal(got, want) {
			t.Fatalf("Tokens(%q) = %v, %v, want %v, %v", s, got, ok, want, wantOk)
		}
		checkReadAgain(t, got)
		if more == 0 {
			return
		}
		for _, piece := range []string{"a", "1", "end", ":", "=", "#", "'", `"`, " ", "<", "\xc3"} {
			checkFrom(s+piece, more-1)
		}
	}
	checkFrom("", 5)
}

func checkReadAgain(t *testing.T, tokens []impl.Token) {
	t.Helper()
	var texts []string
	for _, token := range tokens {
		texts = append(texts, impl.FormatToken(token))
	}
	for _, between := range []string{" ", "\n", `""`} {
		checkTokens(t, strings.Join(texts, between), tokens...)
	}
}

func TestTokensAreReadAgain(t *testing.T) {
	tokens := []impl.Token{
		named("a"), mark(":"), binary("="), named("a"), mark(":="), keyed("a:"), mark(":"), mark(":="),
		hashed("a"), mark(":"), hashed("a:"), keyed("b:"), hashed("a:b:c:d:"), hashed("<"), binary("="),
		quoted("it's"), quoted(""), quoted("'"), numbered(0), numbered(999999999), named(longName),
		wordTok("class"), mark(":"), wordTok("end"), binary("<"), binary("<="),
	}
	for _, s := range operators {
		tokens = append(tokens, binary(s), hashed(s))
	}
	for _, s := range markList {
		tokens = append(tokens, mark(s), mark(s))
	}
	checkReadAgain(t, tokens)
	slices.Reverse(tokens)
	checkReadAgain(t, tokens)
}

func TestTokensResultsAreNew(t *testing.T) {
	source := "x := y at: 12 put: 'it''s' \"note\" #at:put: <= ^ class"
	first, _ := impl.Tokens(source)
	second, _ := impl.Tokens(source)
	want := slices.Clone(second)
	clear(first[:cap(first)])
	if third, ok := impl.Tokens(source); !ok || !slices.Equal(second, want) || !slices.Equal(third, want) {
		t.Errorf("results of Tokens share memory: %v, %v", second, third)
	}
}
