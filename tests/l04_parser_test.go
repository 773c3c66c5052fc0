package tests

import (
	"math/rand"
	"reflect"
	"slices"
	"strconv"
	"strings"
	"testing"

	"loop.example/g03108/impl"
)

func checkParse(t *testing.T, source string, want impl.Expr) {
	t.Helper()
	got, ok := impl.ParseExpr(source)
	if !ok || !reflect.DeepEqual(withoutEmpty(got), withoutEmpty(want)) {
		t.Errorf("ParseExpr(%.200q) = %+v, %v, want %+v", source, got, ok, want)
	}
}

func checkNoParse(t *testing.T, sources ...string) {
	t.Helper()
	for _, s := range sources {
		if got, ok := impl.ParseExpr(s); ok || !reflect.DeepEqual(withoutEmpty(got), impl.Expr{}) {
			t.Errorf("ParseExpr(%.200q) = %+v, %v", s, got, ok)
		}
	}
}

func TestParsePrimaries(t *testing.T) {
	x := name("x")
	checkParse(t, "x", x)
	checkParse(t, longName, name(longName))
	for _, s := range []string{"self", "super", "nil", "true", "false", "Object", "ends", "Main", "mainClass"} {
		checkParse(t, s, name(s))
	}
	checkParse(t, "0", number(0))
	checkParse(t, "007", number(7))
	checkParse(t, "999999999", number(999999999))
	checkParse(t, "''", textOf(""))
	checkParse(t, "'it''s \"1\"'", textOf("it's \"1\""))
	checkParse(t, "#x", symbol("x"))
	checkParse(t, "#at:put:", symbol("at:put:"))
	checkParse(t, "#class:", symbol("class:"))
	checkParse(t, "[]", block(0, ""))
	checkParse(t, "(x)", x)
	checkParse(t, "((( x )))", x)
	checkParse(t, "([(3)])", block(0, "", number(3)))
	checkParse(t, " \n\t\"note\"x\"note\" ", x)
	for _, s := range operators {
		checkParse(t, "#"+s, symbol(s))
		checkNoParse(t, s, "("+s+")", "["+s+"]", s+" x", "x "+s, "x "+s+" "+s+" x")
	}
}

func TestParseMessagesOfOneKind(t *testing.T) {
	x, y, z := name("x"), name("y"), name("z")
	checkParse(t, "x size", send("size", x))
	checkParse(t, "x size negated abs", send("abs", send("negated", send("size", x))))
	checkParse(t, "x x x", send("x", send("x", x)))
	checkParse(t, "3 size", send("size", number(3)))
	checkParse(t, "'a' size", send("size", textOf("a")))
	checkParse(t, "#a size", send("size", symbol("a")))
	checkParse(t, "[] value", send("value", block(0, "")))
	checkParse(t, "(x) size", send("size", x))
	for _, s := range operators {
		checkParse(t, "x "+s+" y", send(s, x, y))
		checkParse(t, "x"+s+"y", send(s, x, y))
		checkParse(t, "x "+s+" y "+s+" z", send(s, send(s, x, y), z))
		checkParse(t, "x "+s+" (y "+s+" z)", send(s, x, send(s, y, z)))
	}
	checkParse(t, "3 + 4 * 5 - 6", send("-", send("*", send("+", number(3), number(4)), number(5)), number(6)))
	checkParse(t, "3-4", send("-", number(3), number(4)))
	checkParse(t, "x <= y = z", send("=", send("<=", x, y), z))
	checkParse(t, "x at: y", send("at:", x, y))
	checkParse(t, "x at: y put: z", send("at:put:", x, y, z))
	checkParse(t, "x class: y end: z", send("class:end:", x, y, z))
	checkParse(t, "x a: 1 b: 2 c: 3", send("a:b:c:", x, number(1), number(2), number(3)))
	checkParse(t, "x a: 1 b: 2 c: 3 d: 4", send("a:b:c:d:", x, number(1), number(2), number(3), number(4)))
	checkParse(t, "x a: 1 a: 2", send("a:a:", x, number(1), number(2)))
	checkParse(t, "x a: (y a: z)", send("a:", x, send("a:", y, z)))
	checkParse(t, "(x a: y) a: z", send("a:", send("a:", x, y), z))
	checkParse(t, "x "+longName+": y "+longName+": z", send(longName+":"+longName+":", x, y, z))
	checkNoParse(t, "x a: 1 b: 2 c: 3 d: 4 e: 5", "[x a: 1 b: 2 c: 3 d: 4 e: 5]", "x a: 1 b: 2 c: 3 d: 4 e: 5 f: 6 g: 7 h: 8")
	checkNoParse(t, "-3", "- x", "3 - -4", "x +", "+ x", "x + + y", "at: x", "x at:", "x at: y put:", "x at: put: y", "x at: at: y", "x at: + y")
}

func TestParseMessagesOfMixedKinds(t *testing.T) {
	x, y, z := name("x"), name("y"), name("z")
	checkParse(t, "x + y size", send("+", x, send("size", y)))
	checkParse(t, "x size + y", send("+", send("size", x), y))
	checkParse(t, "(x + y) size", send("size", send("+", x, y)))
	checkParse(t, "x a b + y c d * z e", send("*", send("+", send("b", send("a", x)), send("d", send("c", y))), send("e", z)))
	checkParse(t, "3 + 4 * x size", send("*", send("+", number(3), number(4)), send("size", x)))
	checkParse(t, "x at: y size", send("at:", x, send("size", y)))
	checkParse(t, "x size at: y", send("at:", send("size", x), y))
	checkParse(t, "(x at: y) size", send("size", send("at:", x, y)))
	checkParse(t, "x at: y + z", send("at:", x, send("+", y, z)))
	checkParse(t, "x + y at: z", send("at:", send("+", x, y), z))
	checkParse(t, "x + (y at: z)", send("+", x, send("at:", y, z)))
	checkParse(t, "x + y size at: z - 1 abs put: 2 * 3 a b + 4",
		send("at:put:", send("+", x, send("size", y)), send("-", z, send("abs", number(1))),
			send("+", send("*", number(2), send("b", send("a", number(3)))), number(4))))
	checkParse(t, "[x] value + [:a | a] size at: [^ y] value",
		send("at:", send("+", send("value", block(0, "", x)), send("size", block(1, "a", name("a")))), send("value", block(0, "", answer(y)))))
	checkParse(t, "(x := y) + (z := 1) size", send("+", assign("x", y), send("size", assign("z", number(1)))))
}

func TestParseAssignments(t *testing.T) {
	x, y := name("x"), name("y")
	checkParse(t, "x := y", assign("x", y))
	checkParse(t, "x:=y", assign("x", y))
	checkParse(t, "x := y := 3", assign("x", assign("y", number(3))))
	checkParse(t, "x := (y := 3)", assign("x", assign("y", number(3))))
	checkParse(t, "self := x", assign("self", x))
	checkParse(t, "x := x + y at: 3", assign("x", send("at:", send("+", x, y), number(3))))
	checkParse(t, "x := y size; abs", assign("x", cascade(y, send("size"), send("abs"))))
	checkParse(t, "x := [y := 3]", assign("x", block(0, "", assign("y", number(3)))))
	checkParse(t, "(x := y)", assign("x", y))
	checkParse(t, "(x := y) size", send("size", assign("x", y)))
	checkParse(t, "x at: (x := y)", send("at:", x, assign("x", y)))
	checkParse(t, "[x := 3. y := 4. ^ x := y]", block(0, "", assign("x", number(3)), assign("y", number(4)), answer(assign("x", y))))
	checkParse(t, "[:x | y := 3]", block(1, "x", assign("y", number(3))))
	checkParse(t, "[| x | y := 3]", block(0, "x", assign("y", number(3))))
	checkNoParse(t,
		"x y := 3", "x := y z := 3", "x + y := 3", "x at: y := 3", "3 := x", "'a' := x", "#x := y", "[] := x", "(x) := y", "(x := y) := 3",
		"x :=", ":= x", ":=", "x := := y", "x : = y", "x := ^ y", "x := .", "x at := y", "x at: := y", "x size; y := 3", "x size; + y := 3",
		"[x y := 3]", "[x + y := 3]", "[x := ]", "[:= x]", "[^ x := ]", "(x := )", "x := y; size", "(x := y size); abs")
}

func TestParseCascades(t *testing.T) {
	x, y, z := name("x"), name("y"), name("z")
	checkParse(t, "x a; b", cascade(x, send("a"), send("b")))
	checkParse(t, "x a; b; c; d", cascade(x, send("a"), send("b"), send("c"), send("d")))
	checkParse(t, "x a b; c", cascade(send("a", x), send("b"), send("c")))
	checkParse(t, "x + y; c", cascade(x, send("+", y), send("c")))
	checkParse(t, "x + y - z; c", cascade(send("+", x, y), send("-", z), send("c")))
	checkParse(t, "x + y a; c", cascade(x, send("+", send("a", y)), send("c")))
	checkParse(t, "x a + y b; c", cascade(send("a", x), send("+", send("b", y)), send("c")))
	checkParse(t, "x at: y; c", cascade(x, send("at:", y), send("c")))
	checkParse(t, "x at: y put: z; c", cascade(x, send("at:put:", y, z), send("c")))
	checkParse(t, "x at: y a; c", cascade(x, send("at:", send("a", y)), send("c")))
	checkParse(t, "x at: y + z; c", cascade(x, send("at:", send("+", y, z)), send("c")))
	checkParse(t, "x a + y at: z b + 1; c", cascade(send("+", send("a", x), y), send("at:", send("+", send("b", z), number(1))), send("c")))
	checkParse(t, "x a; + y", cascade(x, send("a"), send("+", y)))
	checkParse(t, "x a; + y b c; d", cascade(x, send("a"), send("+", send("c", send("b", y))), send("d")))
	checkParse(t, "x a; at: y + z b put: 1; d", cascade(x, send("a"), send("at:put:", send("+", y, send("b", z)), number(1)), send("d")))
	checkParse(t, "x + y; + z; at: y; at: z; a", cascade(x, send("+", y), send("+", z), send("at:", y), send("at:", z), send("a")))
	checkParse(t, "3 a; b", cascade(number(3), send("a"), send("b")))
	checkParse(t, "super a; b", cascade(name("super"), send("a"), send("b")))
	checkParse(t, "[x a; b. ^ y a; b]", block(0, "", cascade(x, send("a"), send("b")), answer(cascade(y, send("a"), send("b")))))
	checkParse(t, "x a; a: 1 b: 2 c: 3 d: 4", cascade(x, send("a"), send("a:b:c:d:", number(1), number(2), number(3), number(4))))
}

func TestParseCascadesAndParentheses(t *testing.T) {
	x, y := name("x"), name("y")
	two := cascade(x, send("a"), send("b"))
	checkParse(t, "(x a; b)", two)
	checkParse(t, "(x) a; b", two)
	checkParse(t, "(x a) b; c", cascade(send("a", x), send("b"), send("c")))
	checkParse(t, "(x + y) + y; c", cascade(send("+", x, y), send("+", y), send("c")))
	checkParse(t, "(x at: y) at: y; c", cascade(send("at:", x, y), send("at:", y), send("c")))
	checkParse(t, "(x := y) a; b", cascade(assign("x", y), send("a"), send("b")))
	checkParse(t, "[x] a; b", cascade(block(0, "", x), send("a"), send("b")))
	checkParse(t, "(x a; b) a; b", cascade(two, send("a"), send("b")))
	checkParse(t, "(x a; b) c", send("c", two))
	checkParse(t, "y + (x a; b)", send("+", y, two))
	checkParse(t, "y + (x a; b); c", cascade(y, send("+", two), send("c")))
	checkParse(t, "y at: (x a); c", cascade(y, send("at:", send("a", x)), send("c")))
	checkParse(t, "y + (x a); c", cascade(y, send("+", send("a", x)), send("c")))
	checkParse(t, "y a; + (x a; b)", cascade(y, send("a"), send("+", two)))
	checkParse(t, "y a; at: (x a; b); c", cascade(y, send("a"), send("at:", two), send("c")))
	checkNoParse(t,
		"x; a", "3; a", "'a'; a", "#a; a", "[]; a", "[x a]; b", "(x); a", "(x a); b", "((x a)); b", "(x + y); a", "(x at: y); a", "(x a; b); c",
		"(x a) ; b", "(x := y a); b", "x := 3; a", "x := (y a); b", "x;", "x a;", ";", "; a", "x ; ; a", "x a; ; b", "x a; b;", "x a;; b",
		"x a; b c", "x a; b + y", "x a; b at: y", "x a; + y + x", "x a; + y at: x", "x a; at: y; + ", "x a; at:", "x a; at: ; b",
		"x a; 3", "x a; 'a'", "x a; #a", "x a; (b)", "x a; [b]", "x a; ^ b", "x a; b := 3", "x a; + y := 3", "x a; x := 3",
		"x a: 1 b: 2 c: 3 d: 4 e: 5; a", "x a; a: 1 b: 2 c: 3 d: 4 e: 5", "[x a;]", "[x; a]", "[x a; ^ b]", "[x a; . b]", "(x a;)")
}

// TestParseBars tries the bars of a block in all arrangements.
func TestParseBars(t *testing.T) {
	a, c := name("a"), name("c")
	for s, want := range map[string]impl.Expr{
		"[]":                         block(0, ""),
		"[c]":                        block(0, "", c),
		"[||]":                       block(0, ""),
		"[| |]":                      block(0, ""),
		"[| | c]":                    block(0, "", c),
		"[||c]":                      block(0, "", c),
		"[| a |]":                    block(0, "a"),
		"[|a|c]":                     block(0, "a", c),
		"[| a b | c]":                block(0, "a b", c),
		"[:a |]":                     block(1, "a"),
		"[:a | c]":                   block(1, "a", c),
		"[ : a | c ]":                block(1, "a", c),
		"[:a|c]":                     block(1, "a", c),
		"[:a :b | c]":                block(2, "a b", c),
		"[:a :b :d :e :f | c]":       block(5, "a b d e f", c),
		"[:a || |]":                  block(1, "a"),
		"[:a | | |]":                 block(1, "a"),
		"[:a | | | c]":               block(1, "a", c),
		"[:a ||| c]":                 block(1, "a", c),
		"[:a | | b | c]":             block(1, "a b", c),
		"[:a || b | c]":              block(1, "a b", c),
		"[:a || b d |]":              block(1, "a b d"),
		"[:a :b || d e | c. ^ a]":    block(2, "a b d e", c, answer(a)),
		"[:a :a | | a a | a]":        block(2, "a a a a", a),
		"[:self | | nil | c]":        block(1, "self nil", c),
		"[:a | [:b | | d | c]]":      block(1, "a", block(1, "b d", c)),
		"[| a | [| b | c]]":          block(0, "a", block(0, "b", c)),
		"[:a | (c)]":                 block(1, "a", c),
		"[:a \"one\" | | \"b\" | c]": block(1, "a", c),
	} {
		checkParse(t, s, want)
	}
	checkNoParse(t,
		"[:a]", "[:a :b]", "[:a c]", "[:a . c]", "[:a | b | c]", "[:a | | b c]", "[:a | | b]", "[:a | |]", "[:a ||]", "[:a | | b | d | c]",
		"[:a b | c]", "[:a | :b | c]", "[:a :b c]", "[: | c]", "[:]", "[: :a | c]", "[:3 | c]", "[:'a' | c]", "[:#a | c]", "[:(a) | c]",
		"[:a: | c]", "[:a:b | c]", "[:a, :b | c]", "[:+ | c]", "[a: | c]", "[a | c]", "[c | ]", "[| c]", "[|]", "[|||]", "[| a]", "[| a b c]",
		"[| :a | c]", "[| a | :b | c]", "[| a | | b | c]", "[| a | b | c]", "[| 3 | c]", "[| a, b | c]", "[| a. b | c]", "[| a := 3 | c]",
		"[| (a) | c]", "[| a: | c]", "[| [] | c]", "[c. | a | c]", "[c. :a | c]", "[c | a |]", ":a | c", "| a | c", "(| a | c)", "(:a | c)",
		"[:= | c]", "[:a := 3]", "[:a | := 3]", "[||", "[:a |", "[:a", "[:", "[|", "[| a", "[| a |")
}

func TestParseStatements(t *testing.T) {
	x, y, z := name("x"), name("y"), name("z")
	for s, want := range map[string]impl.Expr{
		"[x]":                              block(0, "", x),
		"[x.]":                             block(0, "", x),
		"[x. y]":                           block(0, "", x, y),
		"[x.y.]":                           block(0, "", x, y),
		"[x. y. z]":                        block(0, "", x, y, z),
		"[x. y. z.]":                       block(0, "", x, y, z),
		"[1.2]":                            block(0, "", number(1), number(2)),
		"['a'. #b. (x). [y]. 3]":           block(0, "", textOf("a"), symbol("b"), x, block(0, "", y), number(3)),
		"[x size. x + y. x at: y. z := x]": block(0, "", send("size", x), send("+", x, y), send("at:", x, y), assign("z", x)),
		"[^ x]":                            block(0, "", answer(x)),
		"[^x]":                             block(0, "", answer(x)),
		"[^ x.]":                           block(0, "", answer(x)),
		"[x. ^ y]":                         block(0, "", x, answer(y)),
		"[x. ^ y.]":                        block(0, "", x, answer(y)),
		"[x. y. ^ x + y.]":                 block(0, "", x, y, answer(send("+", x, y))),
		"[^ x := y]":                       block(0, "", answer(assign("x", y))),
		"[^ x a; b]":                       block(0, "", answer(cascade(x, send("a"), send("b")))),
		"[^ [^ x]]":                        block(0, "", answer(block(0, "", answer(x)))),
		"[[^ x]. y]":                       block(0, "", block(0, "", answer(x)), y),
		"[[^ x.]. ^ [^ y.].]":              block(0, "", block(0, "", answer(x)), answer(block(0, "", answer(y)))),
		"[:a | ^ x]":                       block(1, "a", answer(x)),
		"[:a || b | ^ x.]":                 block(1, "a b", answer(x)),
		"[| a | ^ x]":                      block(0, "a", answer(x)),
		"[||^x]":                           block(0, "", answer(x)),
		"x at: [^ y] put: [z. ^ x]":        send("at:put:", x, block(0, "", answer(y)), block(0, "", z, answer(x))),
	} {
		checkParse(t, s, want)
	}
	checkNoParse(t,
		"[.]", "[..]", "[x..]", "[. x]", "[x.. y]", "[x. . y]", "[x. y..]", "[x 3]", "[x (y)]", "[x [y]]", "[x 'a']", "[x; y]", "[x, . y]",
		"[:a | .]", "[| a | .]", "[:a | . x]",
		"[^]", "[^.]", "[. ^ x]", "[^ x..]", "[^ x. .]", "[^ x. y]", "[^ x. y.]", "[^ x. ^ y]", "[^ x ^ y]", "[^ ^ x]", "[x ^ y]", "[x. ^]",
		"[x. ^.]", "[x. ^ y. z]", "[x. ^ y..]", "[x.. ^ y]", "[^ :a | x]", "[^ | a | x]",
		"^ x", "^ x.", "^", "(^ x)", "x := ^ y", "x + ^ y", "x at: ^ y", "[x := ^ y]", "[x + ^ y]", "[(^ x)]", "[^ (^ x)]", "^ [x]", "[x] ^ y", "[x]. ^ y",
		"x.", "x. y", "(x.)", "(x. y)", "()", "( )", ".", "x at: (y.)")
}

func TestParseWordsAreNoNames(t *testing.T) {
	x := name("x")
	for _, w := range words {
		checkNoParse(t, w, "("+w+")", "["+w+"]", "[x. "+w+"]", "[^ "+w+"]",
			w+" := x", "x := "+w, "x := "+w+" := x", "[x. "+w+" := x]",
			"x "+w, "x size "+w, w+" size", "x + "+w, w+" + x", "x + x "+w, "x at: "+w, "x at: x "+w, w+" at: x", "x at: x put: "+w,
			"[:"+w+" | x]", "[:a :"+w+" | x]", "[:"+w+" :a | x]", "[| "+w+" | x]", "[| a "+w+" | x]", "[| "+w+" a | x]", "[:a || "+w+" | x]",
			"x size; "+w, "x "+w+"; size", "x size; + "+w, "x size; at: "+w, "x size; size; "+w, "#"+w)
		checkParse(t, "x "+w+": x", send(w+":", x, x))
		checkParse(t, "x at: x "+w+": x", send("at:"+w+":", x, x, x))
		checkParse(t, "x size; "+w+": x", cascade(x, send("size"), send(w+":", x)))
		checkParse(t, "#"+w+":", symbol(w+":"))
		checkParse(t, "'"+w+"'", textOf(w))
		checkParse(t, w+"s := "+w+"1", assign(w+"s", name(w+"1")))
		checkNoParse(t, w+": x", w+":", "x "+w+":", "x "+w+": "+w)
	}
}

// TestParseTextsLikeMarks has texts in quotes where a mark with the same Text
// would be read.
func TestParseTextsLikeMarks(t *testing.T) {
	x := name("x")
	for _, m := range markList {
		q := "'" + m + "'"
		checkParse(t, q, textOf(m))
		checkParse(t, "x := "+q, assign("x", textOf(m)))
		checkParse(t, "x + "+q, send("+", x, textOf(m)))
		checkParse(t, q+" size; + "+q, cascade(textOf(m), send("size"), send("+", textOf(m))))
		checkParse(t, "["+q+"]", block(0, "", textOf(m)))
		checkParse(t, "["+q+". "+q+".]", block(0, "", textOf(m), textOf(m)))
		checkParse(t, "[:a | "+q+"]", block(1, "a", textOf(m)))
		checkParse(t, "[| a | ^ "+q+"]", block(0, "a", answer(textOf(m))))
	}
	checkNoParse(t,
		"x ':=' 3", "x size ';' size", "'(' x ')'", "(x ')'", "'(' x)", "'[' x ']'", "[x ']'", "'[' x]", "[':' a | x]", "[:a '|' x]", "['|' a '|' x]",
		"['|' a | x]", "[| a '|' x]", "[x '.' x]", "[x. '^' '']", "x '+' x", "x 'at:' x", "x 'size'", "x := 'x' 'y'")
}

// TestParseWithSomethingMissingOrMore puts each token in front of and behind
// expressions with which it makes none, and takes the last token away.
func TestParseWithSomethingMissingOrMore(t *testing.T) {
	for _, s := range []string{
		"x", "3", "'a'", "#a", "[]", "(x)", "x size", "x + y", "x at: y", "x at: y put: z", "x := y", "x a; b", "x a; + y", "x a; at: y", "[:a | | b | c]", "[^ x.]",
	} {
		if _, ok := impl.ParseExpr(s); !ok {
			t.Errorf("%q is an expression", s)
		}
		for _, m := range append([]string{"+", "-", "at:", "end", "3 + at:"}, markList...) {
			checkNoParse(t, m+" "+s, s+" "+m, "("+m+" "+s+")", "("+s+" "+m+")")
		}
		for _, m := range []string{"3", "'a'", "#a", "()", "(x)", "[]", "[x]", "^ x", ":a", "| a |", ". x", "\x00", "{", "'", "\""} {
			checkNoParse(t, s+" "+m, "("+s+" "+m+")")
		}
	}
	for _, s := range []string{"(x)", "((x))", "[]", "[x]", "[[x]]", "[:a | x]", "[| a | x]", "(x size)", "x := [x]", "x + (y)", "x at: [y]", "x + y", "x at: y", "x a; at: y", "x := y"} {
		checkParseEnds(t, s)
	}
	checkNoParse(t, "", " ", "\n", "\"note\"", "(", ")", "[", "]", ")(", "][", "([)]", "[(])", "(x]", "[x)", "((x)", "(x))", "[[x]", "[x]]")
}

// checkParseEnds takes the last byte, a token, away from an expression.
func checkParseEnds(t *testing.T, s string) {
	t.Helper()
	if _, ok := impl.ParseExpr(s); !ok {
		t.Errorf("%q is an expression", s)
	}
	checkNoParse(t, s[:len(s)-1])
}

func TestParseWhatTokensRejects(t *testing.T) {
	checkNoParse(t,
		"'a", "x + 'a", "\"a", "x \"a", "1a", "x + 1a", "1234567890", "x at: 1234567890", "#", "x + #", "#1", "#class", "{", "x {", "x / y", `x \ y`, "x ~ y", "x_y", "x $a",
		tooLongName, "x "+tooLongName, "x "+tooLongName+": y", tooLongName+" := x", "[:"+tooLongName+" | x]", "'"+strings.Repeat("a", 41)+"'",
		"'a\nb'", "'é'", "é", "x é", "\x00", "\xff", "x\r", "x ! y", "x @ y", "x % y", "x ? y", "\"a\"b\"", "x. 'a", "(x) 'a",
		"#a:b:c:d:e:")
	atLimit := "x" + strings.Repeat(" ", impl.MaxSource-1)
	checkParse(t, atLimit, name("x"))
	checkNoParse(t, atLimit+" ", " "+atLimit, strings.Repeat(" ", impl.MaxSource), strings.Repeat("x", impl.MaxSource), strings.Repeat("(", 1<<20))
	checkParse(t, "x \""+strings.Repeat("(", impl.MaxSource-4)+"\"", name("x"))
	checkParse(t, "'"+strings.Repeat("a", 40)+"'", textOf(strings.Repeat("a", 40)))
}

// nested is a source of n openings, something in the middle, and n closings.
func nested(n int, open, middle, closing string) string {
	return strings.Repeat(open, n) + middle + strings.Repeat(closing, n)
}

// checkDepth has a source that is as deep as an expression may be, for which
// depth is that of the tree, and one that is deeper.
func checkDepth(t *testing.T, source, deeper string, want impl.Expr) {
	t.Helper()
	checkExtent(t, source, want, len(nodesOf(&want)), impl.MaxDepth)
	checkParse(t, source, want)
	checkNoParse(t, deeper, "["+source+"]", "x := "+source, "x at: ("+source+")", "("+source+") size")
	checkParse(t, "("+source+")", want)
}

func TestParseDepthLimit(t *testing.T) {
	x := name("x")
	unary, binary, right, keyword, blocks := x, x, x, x, block(0, "")
	for range impl.MaxDepth - 1 {
		unary, binary, right, keyword = send("a", unary), send("+", binary, x), send("+", x, right), send("a:b:", x, x, keyword)
		blocks = block(1, "a b", blocks)
	}
	cascades, returns := x, x
	for range (impl.MaxDepth - 1) / 2 {
		cascades = cascade(x, send("a"), send("+", cascades))
		returns = block(0, "", x, answer(returns))
	}
	checkDepth(t, nested(24, "x := ", "x", ""), nested(25, "x := ", "x", ""), deep(25))
	checkDepth(t, nested(24, "", "x", " a"), nested(25, "", "x", " a"), unary)
	checkDepth(t, nested(24, "", "x", " + x"), nested(25, "", "x", " + x"), binary)
	checkDepth(t, nested(24, "x + (", "x", ")"), nested(25, "x + (", "x", ")"), right)
	checkDepth(t, nested(24, "x a: x b: (", "x", ")"), nested(25, "x a: x b: (", "x", ")"), keyword)
	checkDepth(t, nested(24, "[:a || b | ", "[]", "]"), nested(24, "[:a || b | ", "[x]", "]"), blocks)
	checkDepth(t, nested(12, "x a; + (", "x", ")"), nested(12, "x a; + (", "x a", ")"), cascades)
	checkDepth(t, nested(12, "[x. ^ ", "x", "]"), nested(12, "[x. ^ ", "x a", "]"), returns)
}

// checkSize has a source of which the tree is as large as it may be, and one
// that is larger.
func checkSize(t *testing.T, source, larger string, want impl.Expr) {
	t.Helper()
	checkExtent(t, source, want, impl.MaxNodes, depthOf(want))
	checkParse(t, source, want)
	if _, ok := impl.Tokens(larger); !ok {
		t.Error("there are too many tokens")
	}
	checkNoParse(t, larger, "x := "+source, "["+source+"]", "[^ "+source+"]", "("+source+") size")
	checkParse(t, "("+source+")", want)
}

func TestParseSizeLimit(t *testing.T) {
	x := name("x")
	list := func(n int) string { return strings.Repeat("x. ", n) }
	checkSize(t, "["+list(299)+"]", "["+list(300)+"]", wide(300))
	checkSize(t, "["+list(298)+"x]", "["+list(299)+"x]", wide(300))
	checkSize(t, "["+list(297)+"^ x.]", "["+list(298)+"^ x.]", block(0, "", append(wide(298).Kids, answer(x))...))
	checkSize(t, "x"+strings.Repeat(" a;", 297)+" a", "x"+strings.Repeat(" a;", 298)+" a", cascade(append(exprs{x}, slices.Repeat(exprs{send("a")}, 298)...)...))
	many := append(slices.Repeat(exprs{send("+", x, x)}, 99), block(0, ""), x)
	checkSize(t, "["+strings.Repeat("x + x. ", 99)+"[]. x]", "["+strings.Repeat("x + x. ", 99)+"[]. x a]", block(0, "", many...))
	names := strings.Repeat("a ", 401)
	checkParse(t, "["+strings.Repeat(":a ", 197)+"| | "+names+"| ]", block(197, names+strings.Repeat("a ", 197)))
	checkNoParse(t, "["+strings.Repeat(":a ", 197)+"| | "+names+"| x]")
}

func TestParseLongestSources(t *testing.T) {
	x := name("x")
	checkParse(t, nested(399, "(", "x", ")"), x)
	checkParse(t, nested(399, "(", "x", ")")+strings.Repeat(" ", impl.MaxSource-799), x)
	checkParse(t, nested(398, "(", "x a", ")")+" a", send("a", send("a", x)))
	checkParse(t, nested(398, "(", "[]", ")"), block(0, ""))
	checkParse(t, nested(25, "([", "", "])"), nestedBlocks(25))
	checkParse(t, nested(25, strings.Repeat("(", 15)+"[", "", "]"+strings.Repeat(")", 15)), nestedBlocks(25))
	checkNoParse(t,
		nested(400, "(", "x", ")"), nested(400, "(", "", ")"), nested(400, "[", "", "]"), nested(399, "[", "x", "]"), nested(200, "([", "", "])"),
		nested(26, "[", "", "]"), nested(25, "[", "x", "]"), nested(399, "(", "x", ")")+")", "("+nested(399, "(", "x", ")"),
		nested(399, "(", "x", "]"), nested(399, "[", "x", ")"), nested(200, "([", "", ")]"),
		nested(399, "x := ", "x", ""), nested(399, "", "x", " + x"), nested(799, "", "x", " a"), nested(399, "", "x", " a: x"),
		nested(266, "x + (", "x", ""), nested(199, "x + (", "x", ")"), nested(199, "x a: (", "x", ")"), nested(159, "x a; + (", "x", ")"),
		nested(133, "[:a | ", "", "]"), nested(100, "[^ x a: (", "x", ") ]"), "[^"+strings.Repeat("^", 700)+"x]")
	pieces := append([]string{"x ", "3 ", "'a' ", "#a ", "a: ", "+ ", "end "}, markList...)
	for _, one := range pieces {
		for _, two := range pieces {
			checkTotal(t, strings.Repeat(one+two, 400))
			checkTotal(t, strings.Repeat(one, 400)+strings.Repeat(two, 400))
			checkTotal(t, strings.Repeat(one, 400)+"x "+strings.Repeat(two, 399))
			checkTotal(t, "["+strings.Repeat(one+two, 399)+"]")
		}
	}
}

// nestedBlocks is n blocks in each other.
func nestedBlocks(n int) impl.Expr {
	e := block(0, "")
	for range n - 1 {
		e = block(0, "", e)
	}
	return e
}

// checkTotal reads a source that may be none: what comes is an expression but
// no return, or nothing.
func checkTotal(t *testing.T, s string) {
	t.Helper()
	e, ok := impl.ParseExpr(s)
	if ok && (!impl.IsExpr(e) || e.Kind == impl.ExprReturn) || !ok && !reflect.DeepEqual(withoutEmpty(e), impl.Expr{}) {
		t.Errorf("ParseExpr(%.200q) = %+v, %v", s, e, ok)
	}
}

func TestParseAnyBytes(t *testing.T) {
	source := rand.New(rand.NewSource(4))
	letters := []byte("xy19 '#\"+-<=:|.;^()[]\\~\n\x00\xff")
	for range 100000 {
		bytes := make([]byte, source.Intn(30))
		for i := range bytes {
			bytes[i] = letters[source.Intn(len(letters))]
		}
		checkTotal(t, string(bytes))
	}
}

// reading is a way to read tokens by the grammar: the place behind them, what
// they are, and whether that is a message that stands in no parentheses.
type reading struct {
	end     int
	e       impl.Expr
	message bool
}

// grammar finds all ways to read tokens by each rule of the document, where
// the parser takes the only one that can be right.
type grammar []impl.Token

func (g grammar) kind(at int) int {
	if at < len(g) {
		return g[at].Kind
	}
	return 0
}

func (g grammar) mark(at int, s string) bool {
	return at < len(g) && g[at] == mark(s)
}

// repeated returns what step makes of a reading any number of times.
func repeated(r reading, step func(reading) []reading) []reading {
	all := []reading{r}
	for i := 0; i < len(all); i++ {
		all = append(all, step(all[i])...)
	}
	return all
}

// to returns the sends to r of messages that are read without a receiver.
func (r reading) to(messages []reading) []reading {
	var all []reading
	for _, m := range messages {
		all = append(all, reading{m.end, send(m.e.Text, append(exprs{r.e}, m.e.Kids...)...), true})
	}
	return all
}

func (g grammar) expr(at int) []reading {
	var all []reading
	if g.kind(at) == impl.TokName && g.mark(at+1, ":=") {
		for _, r := range g.expr(at + 2) {
			all = append(all, reading{end: r.end, e: assign(g[at].Text, r.e)})
		}
	}
	for _, r := range g.binary(at) {
		for _, first := range append([]reading{r}, r.to(g.keywords(r.end))...) {
			all = append(all, reading{end: first.end, e: first.e})
			all = append(all, g.cascades(first)...)
		}
	}
	return all
}

// cascades returns the cascades that begin with a message.
func (g grammar) cascades(first reading) []reading {
	if !first.message {
		return nil
	}
	whole := repeated(reading{first.end, cascade(first.e.Kids[0], send(first.e.Text, first.e.Kids[1:]...)), false}, func(r reading) []reading {
		if !g.mark(r.end, ";") {
			return nil
		}
		var all []reading
		for _, m := range g.message(r.end + 1) {
			all = append(all, reading{end: m.end, e: cascade(append(slices.Clone(r.e.Kids), m.e)...)})
		}
		return all
	})
	return whole[1:]
}

func (g grammar) binary(at int) []reading {
	var all []reading
	for _, r := range g.unary(at) {
		all = append(all, repeated(r, func(r reading) []reading { return r.to(g.operator(r.end)) })...)
	}
	return all
}

func (g grammar) unary(at int) []reading {
	var all []reading
	for _, r := range g.primary(at) {
		all = append(all, repeated(r, func(r reading) []reading {
			if g.kind(r.end) != impl.TokName {
				return nil
			}
			return r.to([]reading{{end: r.end + 1, e: send(g[r.end].Text)}})
		})...)
	}
	return all
}

func (g grammar) operator(at int) []reading {
	var all []reading
	if g.kind(at) == impl.TokBinary {
		for _, arg := range g.unary(at + 1) {
			all = append(all, reading{end: arg.end, e: send(g[at].Text, arg.e)})
		}
	}
	return all
}

func (g grammar) keywords(at int) []reading {
	return repeated(reading{end: at, e: send("")}, func(r reading) []reading {
		var all []reading
		if g.kind(r.end) == impl.TokKeyword {
			for _, arg := range g.binary(r.end + 1) {
				all = append(all, reading{end: arg.end, e: send(r.e.Text+g[r.end].Text, append(slices.Clone(r.e.Kids), arg.e)...)})
			}
		}
		return all
	})[1:]
}

func (g grammar) message(at int) []reading {
	all := append(g.operator(at), g.keywords(at)...)
	if g.kind(at) == impl.TokName {
		all = append(all, reading{end: at + 1, e: send(g[at].Text)})
	}
	return all
}

func (g grammar) primary(at int) []reading {
	var all []reading
	switch g.kind(at) {
	case impl.TokName:
		return []reading{{end: at + 1, e: name(g[at].Text)}}
	case impl.TokInt:
		return []reading{{end: at + 1, e: number(g[at].Number)}}
	case impl.TokText:
		return []reading{{end: at + 1, e: textOf(g[at].Text)}}
	case impl.TokSymbol:
		return []reading{{end: at + 1, e: symbol(g[at].Text)}}
	}
	if g.mark(at, "(") {
		for _, r := range g.expr(at + 1) {
			if g.mark(r.end, ")") {
				all = append(all, reading{end: r.end + 1, e: r.e})
			}
		}
	}
	if g.mark(at, "[") {
		for _, r := range g.block(at + 1) {
			if g.mark(r.end, "]") {
				all = append(all, reading{end: r.end + 1, e: r.e})
			}
		}
	}
	return all
}

func (g grammar) block(at int) []reading {
	heads := []reading{{end: at, e: block(0, "")}}
	for _, r := range repeated(heads[0], func(r reading) []reading {
		if !g.mark(r.end, ":") || g.kind(r.end+1) != impl.TokName {
			return nil
		}
		return []reading{{end: r.end + 2, e: block(r.e.Number+1, strings.Join(append(r.e.Names, g[r.end+1].Text), " "))}}
	})[1:] {
		if g.mark(r.end, "|") {
			heads = append(heads, reading{end: r.end + 1, e: r.e})
		}
	}
	var all []reading
	for _, head := range heads {
		for _, r := range append(g.variables(head), head) {
			all = append(all, g.statements(r)...)
		}
	}
	return all
}

// variables returns the blocks that a block with parameters becomes by the
// bars and names that follow.
func (g grammar) variables(head reading) []reading {
	if !g.mark(head.end, "|") {
		return nil
	}
	var all []reading
	for _, r := range repeated(reading{end: head.end + 1, e: head.e}, func(r reading) []reading {
		if g.kind(r.end) != impl.TokName {
			return nil
		}
		return []reading{{end: r.end + 1, e: block(r.e.Number, strings.Join(append(slices.Clone(r.e.Names), g[r.end].Text), " "))}}
	}) {
		if g.mark(r.end, "|") {
			all = append(all, reading{end: r.end + 1, e: r.e})
		}
	}
	return all
}

// statements returns the blocks that a block without statements becomes by the
// statements that follow.
func (g grammar) statements(head reading) []reading {
	with := func(r reading, end int, e impl.Expr) reading {
		r.end, r.e.Kids = end, append(slices.Clone(r.e.Kids), e)
		return r
	}
	var all []reading
	for _, r := range repeated(head, func(r reading) []reading {
		var more []reading
		for _, e := range g.expr(r.end) {
			if g.mark(e.end, ".") {
				more = append(more, with(r, e.end+1, e.e))
			}
		}
		return more
	}) {
		all = append(all, r)
		for _, e := range g.expr(r.end) {
			all = append(all, with(r, e.end, e.e))
		}
		if !g.mark(r.end, "^") {
			continue
		}
		for _, e := range g.expr(r.end + 1) {
			all = append(all, with(r, e.end, answer(e.e)))
			if g.mark(e.end, ".") {
				all = append(all, with(r, e.end+1, answer(e.e)))
			}
		}
	}
	return all
}

// checkGrammar compares what the parser reads with all that the grammar allows,
// which is one tree at most.
func checkGrammar(t *testing.T, s string) bool {
	t.Helper()
	tokens, ok := impl.Tokens(s)
	if !ok {
		t.Fatalf("%q has no tokens", s)
	}
	var found exprs
	for _, r := range grammar(tokens).expr(0) {
		if r.end == len(tokens) {
			found = append(found, r.e)
		}
	}
	switch len(found) {
	case 0:
		checkNoParse(t, s)
	case 1:
		checkParse(t, s, found[0])
	default:
		t.Errorf("the grammar reads %q in %d ways", s, len(found))
	}
	return len(found) > 0
}

// TestParseShortSources compares all sources of a few pieces with the grammar.
func TestParseShortSources(t *testing.T) {
	for _, c := range []struct {
		before, pieces, behind string
		most                   int
	}{
		{"", "x 3 'a' #a + k: ( ) [ ] : | . ^ := ; end", "", 4},
		{"[", "x : | . ^", "]", 7},
		{"[ :x", "x | . ^ 3", "]", 6},
		{"", "x + k: ; ( )", "", 7},
		{"x", "x + k: ; :=", "", 6},
		{"[", "x := . ^ ; [ ]", "]", 6},
		{"( x", "x + k: ; ( )", "x ; x", 6},
		{"x k:", "x + ; [ ] |", "", 6},
	} {
		count := 0
		var checkFrom func(s string, more int)
		checkFrom = func(s string, more int) {
			if checkGrammar(t, c.before+s+" "+c.behind) {
				count++
			}
			if more == 0 || t.Failed() {
				return
			}
			for _, piece := range strings.Fields(c.pieces) {
				checkFrom(s+" "+piece, more-1)
			}
		}
		checkFrom("", c.most)
		if count < 50 {
			t.Errorf("only %d of the sources of %q are expressions", count, c.pieces)
		}
	}
}

// maker makes trees of all kinds, the same ones in each run.
type maker struct {
	*rand.Rand
}

func (m maker) pick(list ...string) string {
	return list[m.Intn(len(list))]
}

// value makes a tree of so many levels at most.
func (m maker) value(levels int) impl.Expr {
	leaves := exprs{name(m.pick("x", "y", "self")), number(m.Intn(1000)), textOf(m.pick("", "it's", "|", ".")), symbol(m.pick("a", "+", "at:put:")), block(0, "")}
	if levels <= 1 {
		return leaves[m.Intn(len(leaves))]
	}
	switch m.Intn(6) {
	case 0:
		return leaves[m.Intn(len(leaves))]
	case 1:
		return assign(m.pick("x", "y"), m.value(levels-1))
	case 2:
		kids := exprs{m.value(levels - 1)}
		for range 2 + m.Intn(3) {
			kids = append(kids, m.message(levels-1))
		}
		return cascade(kids...)
	case 3:
		return m.block(levels)
	}
	e := m.message(levels)
	e.Kids = append(exprs{m.value(levels - 1)}, e.Kids...)
	return e
}

func (m maker) message(levels int) impl.Expr {
	e := send(m.pick("a", "size", "+", "//", "at:", "at:put:", "a:b:c:d:", "class:"))
	for range impl.CountArgs(e.Text) {
		e.Kids = append(e.Kids, m.value(levels-1))
	}
	return e
}

func (m maker) block(levels int) impl.Expr {
	e := block(0, strings.Repeat("a b ", m.Intn(3)))
	e.Number = m.Intn(len(e.Names) + 1)
	for range m.Intn(4) {
		e.Kids = append(e.Kids, m.value(levels-1))
	}
	if m.Intn(3) == 0 {
		e.Kids = append(e.Kids, answer(m.value(levels-1)))
	}
	return e
}

// inParentheses writes an expression with each of its parts in parentheses, and
// blanks of all kinds.
func (m maker) inParentheses(e impl.Expr) string {
	var kids []string
	for i, kid := range e.Kids {
		s := m.inParentheses(kid)
		if kid.Kind != impl.ExprReturn && (e.Kind != impl.ExprCascade || i == 0) {
			s = "(" + s + ")"
		}
		kids = append(kids, s)
	}
	blank := m.pick(" ", "\n", "\t ", "\"note\"", "  ")
	switch e.Kind {
	case impl.ExprInt:
		return strconv.Itoa(e.Number)
	case impl.ExprText:
		return "'" + strings.ReplaceAll(e.Text, "'", "''") + "'"
	case impl.ExprSymbol:
		return "#" + e.Text
	case impl.ExprName:
		return e.Text
	case impl.ExprAssign:
		return e.Text + blank + ":=" + blank + kids[0]
	case impl.ExprReturn:
		return "^" + blank + kids[0]
	case impl.ExprCascade:
		return kids[0] + blank + strings.Join(kids[1:], ";"+blank)
	case impl.ExprBlock:
		return m.blockOf(e, kids, blank)
	}
	s := ""
	if len(kids) > impl.CountArgs(e.Text) {
		s, kids = kids[0]+blank, kids[1:]
	}
	if len(kids) < 2 {
		return s + e.Text + blank + strings.Join(kids, "")
	}
	for i, part := range strings.SplitAfter(e.Text, ":")[:len(kids)] {
		s += part + blank + kids[i] + blank
	}
	return s
}

func (m maker) blockOf(e impl.Expr, kids []string, blank string) string {
	s := "["
	for _, param := range e.Names[:e.Number] {
		s += ":" + blank + param + blank
	}
	if e.Number > 0 {
		s += "|" + blank
	}
	if len(e.Names) > e.Number || m.Intn(3) == 0 {
		s += "|" + blank + strings.Join(e.Names[e.Number:], blank) + blank + "|"
	}
	s += strings.Join(kids, "."+blank)
	if len(kids) > 0 && m.Intn(2) == 0 {
		s += blank + "."
	}
	return s + "]"
}

// TestParseMadeTrees reads trees from their texts.
func TestParseMadeTrees(t *testing.T) {
	m := maker{rand.New(rand.NewSource(11))}
	read := 0
	for range 20000 {
		e := m.value(1 + m.Intn(6))
		s := m.inParentheses(e)
		if _, ok := impl.Tokens(s); !ok {
			continue
		}
		if !impl.IsExpr(e) {
			checkNoParse(t, s)
			continue
		}
		read++
		checkParse(t, s, e)
	}
	if read < 15000 {
		t.Error("there are only", read, "trees")
	}
}

// spaces returns the places in memory of all elements that the lists of a tree
// have room for.
func spaces(e *impl.Expr) []any {
	var list []any
	for _, node := range nodesOf(e) {
		for i := range node.Names[:cap(node.Names)] {
			list = append(list, &node.Names[:cap(node.Names)][i])
		}
		for i := range node.Kids[:cap(node.Kids)] {
			list = append(list, &node.Kids[:cap(node.Kids)][i])
		}
	}
	return list
}

func TestParseResultsAreNew(t *testing.T) {
	for _, s := range []string{
		"x at: 1 + 2 put: [:a :b | | q r | q := a. ^ b]; size; + 3 a b; at: (x a; b)",
		"[:a :b :c | | d e f | x. y. [:a | | b | z + a]. x a b c: 3 d: [^ a]; e; + 3. ^ x]",
		"x + y size; a", "x a; b", "x a: 1 b: 2 c: 3 d: 4; a: 1 b: 2 c: 3 d: 4", "[:a | | b |]", "[| a b c d e |]",
	} {
		first, _ := impl.ParseExpr(s)
		second, _ := impl.ParseExpr(s)
		want := copyOf(second)
		met := map[any]bool{}
		for _, place := range slices.Concat(spaces(&first), spaces(&second)) {
			if met[place] {
				t.Errorf("two lists of ParseExpr(%q) share memory", s)
			}
			met[place] = true
		}
		for _, node := range nodesOf(&first) {
			clear(node.Names[:cap(node.Names)])
		}
		clear(first.Kids[:cap(first.Kids)])
		checkParse(t, s, want)
		checkEqual(t, "results of one source", second, want, true)
	}
}
