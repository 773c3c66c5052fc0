package tests

import (
	"math"
	"math/rand"
	"reflect"
	"slices"
	"strings"
	"testing"

	"loop.example/g03108/impl"
)

// checkReadAs reads an expression from its text. A return is read in a block.
func checkReadAs(t *testing.T, s string, e impl.Expr) {
	t.Helper()
	if e.Kind == impl.ExprReturn {
		checkNoParse(t, s)
		checkParse(t, "["+s+"]", block(0, "", e))
		return
	}
	checkParse(t, s, e)
}

func checkTextAlone(t *testing.T, e impl.Expr, want string) {
	t.Helper()
	if got := impl.FormatExpr(e); got != want {
		t.Errorf("FormatExpr(%s) = %.300q, want %.300q", brief(e), got, want)
	}
}

// checkText compares the text of an expression with the one that it is to have,
// and reads it again.
func checkText(t *testing.T, e impl.Expr, want string) {
	t.Helper()
	checkTextAlone(t, e, want)
	checkReadAs(t, want, e)
}

func checkNoText(t *testing.T, list ...impl.Expr) {
	t.Helper()
	for _, e := range list {
		if got := impl.FormatExpr(e); got != "" {
			t.Errorf("FormatExpr(%s) = %.300q", brief(e), got)
		}
	}
}

func checkMethodTextAlone(t *testing.T, m impl.Method, want string) {
	t.Helper()
	if got := impl.FormatMethod(m); got != want {
		t.Errorf("FormatMethod(%s) = %.300q, want %.300q", brief(m), got, want)
	}
}

func checkUnitTextAlone(t *testing.T, u impl.Unit, want string) {
	t.Helper()
	if got := impl.FormatUnit(u); got != want {
		t.Errorf("FormatUnit(%s) = %.300q, want %.300q", brief(u), got, want)
	}
}

func checkUnitText(t *testing.T, u impl.Unit, want string) {
	t.Helper()
	checkUnitTextAlone(t, u, want)
	checkUnit(t, want, u)
}

// textAround is the text of withMethod with this text of the method.
func textAround(s string) string {
	return "class A extends Object\nend\nclass B extends A\nfields x\nmethod a\n    ^ x\n" + s + "method b\n    \nend\nmain\n    \n"
}

// checkMethodText compares the text of a method, alone and in a unit, and reads
// it again.
func checkMethodText(t *testing.T, m impl.Method, want string) {
	t.Helper()
	checkMethodTextAlone(t, m, want)
	checkMethod(t, want, m)
	checkUnitText(t, withMethod(m), textAround(want))
}

// checkNoMethodText has methods that are none, which the unit around them makes
// none either.
func checkNoMethodText(t *testing.T, list ...impl.Method) {
	t.Helper()
	for _, m := range list {
		checkMethodTextAlone(t, m, "")
		checkUnitTextAlone(t, withMethod(m), "")
	}
}

func TestPrintTokens(t *testing.T) {
	for n, want := range map[int]string{0: "0", 7: "7", 10: "10", 123456789: "123456789", 999999999: "999999999"} {
		checkText(t, number(n), want)
	}
	for text, want := range map[string]string{
		"": "''", "a": "'a'", " ": "' '", "a b": "'a b'", "'": "''''", "''": "''''''", "it's": "'it''s'", "'a'": "'''a'''", "a'": "'a'''", "'a": "'''a'",
		"\"": "'\"'", "\"note\"": "'\"note\"'", "(": "'('", "a; b. c": "'a; b. c'", "~!?{}": "'~!?{}'", "class": "'class'", `\`: `'\'`, "#a": "'#a'",
		strings.Repeat("'", 40): strings.Repeat("'", 82), strings.Repeat("a", 40): "'" + strings.Repeat("a", 40) + "'",
	} {
		checkText(t, textOf(text), want)
	}
	for _, s := range append([]string{"x", "Z9", "self", "a:", "at:put:", "a:b:c:", "a:b:c:d:", "class:", "end:main:", "B2:", longName, longName + ":", strings.Repeat(longName+":", 4)}, operators...) {
		checkText(t, symbol(s), "#"+s)
		checkText(t, send("size", symbol(s)), "#"+s+" size")
		checkText(t, send("=", symbol(s), symbol(s)), "#"+s+" = #"+s)
		checkText(t, block(0, "", symbol(s), answer(symbol(s))), "[#"+s+". ^ #"+s+"]")
		checkText(t, send("a", send("k:", symbol(s), symbol(s))), "(#"+s+" k: #"+s+") a")
	}
	for _, s := range []string{"x", "Z9", "self", "super", "nil", "true", "Object", "ends", "Main", longName} {
		checkText(t, name(s), s)
	}
}

func TestPrintMessages(t *testing.T) {
	x, y, z := name("x"), name("y"), name("z")
	checkText(t, send("size", x), "x size")
	checkText(t, send("x", send("x", x)), "x x x")
	checkText(t, send("at:", x, y), "x at: y")
	checkText(t, send("at:put:", x, y, z), "x at: y put: z")
	checkText(t, send("a:b:c:", x, y, z, x), "x a: y b: z c: x")
	checkText(t, send("a:b:c:d:", x, y, z, x, y), "x a: y b: z c: x d: y")
	checkText(t, send("a:a:a:a:", x, y, z, x, y), "x a: y a: z a: x a: y")
	checkText(t, send("class:end:", x, y, z), "x class: y end: z")
	checkText(t, send(longName, x), "x "+longName)
	checkText(t, send(longName+":"+longName+":", x, y, z), "x "+longName+": y "+longName+": z")
	checkText(t, send("+", number(1), send("-", number(2), number(3))), "1 + (2 - 3)")
	checkText(t, send("-", send("+", number(1), number(2)), number(3)), "1 + 2 - 3")
	checkText(t, send("at:", send("+", send("size", x), y), send("+", z, send("size", x))), "x size + y at: z + x size")
	for _, s := range operators {
		checkText(t, send(s, x, y), "x "+s+" y")
		for _, other := range operators {
			checkText(t, send(s, send(other, x, y), z), "x "+other+" y "+s+" z")
			checkText(t, send(s, x, send(other, y, z)), "x "+s+" (y "+other+" z)")
		}
	}
}

func TestPrintAssignmentsAndReturns(t *testing.T) {
	x, y := name("x"), name("y")
	checkText(t, assign("x", y), "x := y")
	checkText(t, assign("x", assign("y", number(3))), "x := y := 3")
	checkText(t, assign("self", send("at:", x, y)), "self := x at: y")
	checkText(t, assign("x", cascade(y, send("a"), send("b"))), "x := y a; b")
	checkText(t, assign("x", block(0, "", assign("y", x), answer(assign("y", x)))), "x := [y := x. ^ y := x]")
	checkText(t, answer(x), "^ x")
	checkText(t, answer(assign("x", y)), "^ x := y")
	checkText(t, answer(send("a:b:", x, y, y)), "^ x a: y b: y")
	checkText(t, answer(cascade(y, send("a"), send("b"))), "^ y a; b")
	checkText(t, answer(block(0, "", answer(x))), "^ [^ x]")
}

// part is an expression with its text and what it binds with.
type part struct {
	e     impl.Expr
	text  string
	binds int
}

// place is where a part may stand: what is made of it, the texts around it, what
// it needs, what the whole binds with, and whether a return may stand there.
type place struct {
	whole          func(impl.Expr) impl.Expr
	before, behind string
	needs, binds   int
	last           bool
}

func (p place) with(one part) part {
	text := one.text
	if one.binds < p.needs {
		text = "(" + text + ")"
	}
	return part{p.whole(one.e), p.before + text + p.behind, p.binds}
}

// sampleParts returns parts of all kinds.
func sampleParts() []part {
	a, b := name("a"), name("b")
	parts := []part{
		{number(12), "12", 4}, {textOf("it's"), "'it''s'", 4}, {symbol("at:put:"), "#at:put:", 4}, {a, "a", 4},
		{block(0, ""), "[]", 4}, {block(1, "a b", a, answer(b)), "[:a | | b | a. ^ b]", 4},
		{send("abs", a), "a abs", 3}, {send("class", a), "", -1},
		{send("k:", a, b), "a k: b", 1}, {send("k:l:", a, b, a), "a k: b l: a", 1}, {send("a:b:c:d:", a, b, a, b, a), "a a: b b: a c: b d: a", 1},
		{assign("a", b), "a := b", 0}, {answer(a), "^ a", 0},
		{cascade(a, send("size"), send("b")), "a size; b", 0}, {cascade(a, send("*", b), send("k:", b)), "a * b; k: b", 0}, {cascade(a, send("k:", b), send("*", b)), "a k: b; * b", 0},
	}
	for _, s := range operators {
		parts = append(parts, part{send(s, a, b), "a " + s + " b", 2})
	}
	return parts
}

// placesOfSends are the places for receivers and for arguments.
func placesOfSends() []place {
	x, y := name("x"), name("y")
	return []place{
		{func(e impl.Expr) impl.Expr { return send("size", e) }, "", " size", 3, 3, false},
		{func(e impl.Expr) impl.Expr { return send("+", e, y) }, "", " + y", 2, 2, false},
		{func(e impl.Expr) impl.Expr { return send("<=", e, y) }, "", " <= y", 2, 2, false},
		{func(e impl.Expr) impl.Expr { return send("at:", e, y) }, "", " at: y", 2, 1, false},
		{func(e impl.Expr) impl.Expr { return send("at:put:", e, y, x) }, "", " at: y put: x", 2, 1, false},
		{func(e impl.Expr) impl.Expr { return send("+", y, e) }, "y + ", "", 3, 2, false},
		{func(e impl.Expr) impl.Expr { return send(",", y, e) }, "y , ", "", 3, 2, false},
		{func(e impl.Expr) impl.Expr { return send("at:", y, e) }, "y at: ", "", 2, 1, false},
		{func(e impl.Expr) impl.Expr { return send("at:put:", y, e, x) }, "y at: ", " put: x", 2, 1, false},
		{func(e impl.Expr) impl.Expr { return send("at:put:", y, x, e) }, "y at: x put: ", "", 2, 1, false},
		{func(e impl.Expr) impl.Expr { return send("a:b:c:d:", y, x, x, e, x) }, "y a: x b: x c: ", " d: x", 2, 1, false},
		{func(e impl.Expr) impl.Expr { return send("a:b:c:d:", y, x, x, x, e) }, "y a: x b: x c: x d: ", "", 2, 1, false},
	}
}

// placesOfCascades are the places for receivers and for arguments of each
// message.
func placesOfCascades() []place {
	x, y := name("x"), name("y")
	return []place{
		{func(e impl.Expr) impl.Expr { return cascade(e, send("size"), send("b")) }, "", " size; b", 3, 0, false},
		{func(e impl.Expr) impl.Expr { return cascade(e, send("size"), send("+", y)) }, "", " size; + y", 3, 0, false},
		{func(e impl.Expr) impl.Expr { return cascade(e, send("size"), send("at:", y), send("+", y)) }, "", " size; at: y; + y", 3, 0, false},
		{func(e impl.Expr) impl.Expr { return cascade(e, send("+", y), send("size")) }, "", " + y; size", 2, 0, false},
		{func(e impl.Expr) impl.Expr { return cascade(e, send("+", y), send("at:", y)) }, "", " + y; at: y", 2, 0, false},
		{func(e impl.Expr) impl.Expr { return cascade(e, send("at:", y), send("size")) }, "", " at: y; size", 2, 0, false},
		{func(e impl.Expr) impl.Expr { return cascade(e, send("at:put:", y, x), send("size"), send("+", y)) }, "", " at: y put: x; size; + y", 2, 0, false},
		{func(e impl.Expr) impl.Expr { return cascade(y, send("+", e), send("size")) }, "y + ", "; size", 3, 0, false},
		{func(e impl.Expr) impl.Expr { return cascade(y, send("size"), send("+", e)) }, "y size; + ", "", 3, 0, false},
		{func(e impl.Expr) impl.Expr { return cascade(y, send("size"), send("+", e), send("size")) }, "y size; + ", "; size", 3, 0, false},
		{func(e impl.Expr) impl.Expr { return cascade(y, send("at:", e), send("size")) }, "y at: ", "; size", 2, 0, false},
		{func(e impl.Expr) impl.Expr { return cascade(y, send("size"), send("at:", e)) }, "y size; at: ", "", 2, 0, false},
		{func(e impl.Expr) impl.Expr { return cascade(y, send("+", x), send("at:put:", e, x), send("+", x)) }, "y + x; at: ", " put: x; + x", 2, 0, false},
		{func(e impl.Expr) impl.Expr { return cascade(y, send("at:", x), send("at:put:", x, e)) }, "y at: x; at: x put: ", "", 2, 0, false},
	}
}

// placesThatNeedNothing are those of statements and of the kids of assignments
// and returns.
func placesThatNeedNothing() []place {
	x, y := name("x"), name("y")
	return []place{
		{func(e impl.Expr) impl.Expr { return assign("x", e) }, "x := ", "", 0, 0, false},
		{answer, "^ ", "", 0, 0, false},
		{func(e impl.Expr) impl.Expr { return block(0, "", e) }, "[", "]", 0, 4, true},
		{func(e impl.Expr) impl.Expr { return block(0, "", e, y) }, "[", ". y]", 0, 4, false},
		{func(e impl.Expr) impl.Expr { return block(0, "", x, e, y) }, "[x. ", ". y]", 0, 4, false},
		{func(e impl.Expr) impl.Expr { return block(0, "", x, e) }, "[x. ", "]", 0, 4, true},
		{func(e impl.Expr) impl.Expr { return block(0, "", e, answer(y)) }, "[", ". ^ y]", 0, 4, false},
		{func(e impl.Expr) impl.Expr { return block(0, "", answer(e)) }, "[^ ", "]", 0, 4, false},
		{func(e impl.Expr) impl.Expr { return block(1, "p", e) }, "[:p | ", "]", 0, 4, true},
		{func(e impl.Expr) impl.Expr { return block(0, "v", e) }, "[| v | ", "]", 0, 4, true},
		{func(e impl.Expr) impl.Expr { return block(1, "p v", e, y) }, "[:p | | v | ", ". y]", 0, 4, false},
		{func(e impl.Expr) impl.Expr { return block(2, "p q v w", x, answer(e)) }, "[:p :q | | v w | x. ^ ", "]", 0, 4, false},
	}
}

// TestPrintParts puts parts of all kinds at all places, and what comes of it at
// all places again.
func TestPrintParts(t *testing.T) {
	places := slices.Concat(placesOfSends(), placesOfCascades(), placesThatNeedNothing())
	var putFrom func(one part, more int)
	putFrom = func(one part, more int) {
		if one.binds < 0 {
			checkNoText(t, one.e)
			return
		}
		checkText(t, one.e, one.text)
		for _, p := range places {
			whole := p.with(one)
			if one.e.Kind == impl.ExprReturn && !p.last {
				whole.binds = -1
			}
			if more > 0 && !t.Failed() {
				putFrom(whole, more-1)
			}
		}
	}
	for _, one := range sampleParts() {
		putFrom(one, 2)
	}
}

// TestPrintPartsInMethods puts parts of all kinds where the statements of
// methods stand.
func TestPrintPartsInMethods(t *testing.T) {
	x := name("x")
	for _, one := range sampleParts() {
		if one.binds < 0 {
			checkNoMethodText(t, method("a", "", "", one.e), method("+", "x", "y", x, one.e))
			continue
		}
		checkMethodText(t, method("a", "", "", one.e), "method a\n    "+one.text+"\n")
		checkMethodText(t, classMethod("k:", "x", "y", x, one.e), "classmethod k: x\n    | y | x. "+one.text+"\n")
		checkUnitText(t, unit(mainOf("", x, one.e)), "main\n    x. "+one.text+"\n")
		more := method("+", "y", "", one.e, x)
		if one.e.Kind == impl.ExprReturn {
			checkNoMethodText(t, more)
			continue
		}
		checkMethodText(t, more, "method + y\n    "+one.text+". x\n")
		checkMethodText(t, method("a", "", "", answer(one.e)), "method a\n    ^ "+one.text+"\n")
		checkUnitText(t, unit(mainOf("y", answer(one.e))), "main\n    | y | ^ "+one.text+"\n")
	}
}

// TestPrintBlocks has blocks with and without parameters, variables and
// statements, in each combination.
func TestPrintBlocks(t *testing.T) {
	x, y, z := name("x"), name("y"), name("z")
	for s, want := range map[string]impl.Expr{
		"[]": block(0, ""), "[x]": block(0, "", x), "[^ x]": block(0, "", answer(x)), "[x. ^ y]": block(0, "", x, answer(y)),
		"[:a | ]": block(1, "a"), "[:a | x]": block(1, "a", x), "[:a :b | x. y]": block(2, "a b", x, y), "[:a :b | ]": block(2, "a b"),
		"[| a | ]": block(0, "a"), "[| a | x]": block(0, "a", x), "[| a b | ^ x]": block(0, "a b", answer(x)),
		"[:a | | b | ]": block(1, "a b"), "[:a | | b | x]": block(1, "a b", x), "[:a :b | | c d | x. ^ y]": block(2, "a b c d", x, answer(y)),
		"[:a | [:b | [| c | [d]]]]": block(1, "a", block(1, "b", block(0, "c", block(0, "", name("d"))))),
	} {
		checkText(t, want, s)
	}
	heads := []string{"", ":p | ", ":p :q | ", ":p :p :p | "}
	lists := []string{"", "| v | ", "| v w | ", "| v v v | "}
	bodies := map[string]exprs{
		"": nil, "x": {x}, "x. y": {x, y}, "x. y. z": {x, y, z}, "^ x": {answer(x)}, "x. ^ y": {x, answer(y)}, "x. y. ^ z": {x, y, answer(z)},
		"[x]. [^ y]": {block(0, "", x), block(0, "", answer(y))}, "'|'. ^ '.'": {textOf("|"), answer(textOf("."))},
	}
	for params, head := range heads {
		for temps, list := range lists {
			names := []string{"", "p ", "p q ", "p p p "}[params] + []string{"", "v", "v w", "v v v"}[temps]
			for s, body := range bodies {
				checkText(t, block(params, names, body...), "["+head+list+s+"]")
				checkText(t, send("value", block(params, names, body...)), "["+head+list+s+"] value")
			}
		}
	}
}

// TestPrintCascades has cascades of two messages and more, with messages of
// every form at each place.
func TestPrintCascades(t *testing.T) {
	x, y, z := name("x"), name("y"), name("z")
	messages := map[string]impl.Expr{
		"size": send("size"), "+ y": send("+", y), "at: y": send("at:", y), "at: y put: z": send("at:put:", y, z),
		"- (y + z)": send("-", send("+", y, z)), "a: y size b: (z a: y) c: 'it''s' d: []": send("a:b:c:d:", send("size", y), send("a:", z, y), textOf("it's"), block(0, "")),
	}
	var addTo func(e impl.Expr, s string, more int)
	addTo = func(e impl.Expr, s string, more int) {
		if len(e.Kids) < 3 {
			checkNoText(t, e)
		} else {
			checkText(t, e, s)
			checkText(t, assign("x", e), "x := "+s)
			checkText(t, send("size", e), "("+s+") size")
			checkText(t, block(0, "", e, x), "["+s+". x]")
		}
		for text, one := range messages {
			if more > 0 {
				addTo(cascade(append(slices.Clone(e.Kids), one)...), s+"; "+text, more-1)
			}
		}
	}
	for text, one := range messages {
		addTo(cascade(x, one), "x "+text, 3)
	}
	many := cascade(append(exprs{x}, slices.Repeat(exprs{send("a"), send("+", y)}, 50)...)...)
	checkText(t, many, "x a; + y"+strings.Repeat("; a; + y", 49))
}

// TestPrintMethods has methods with each form of pattern, for the class and not,
// with and without variables and statements.
func TestPrintMethods(t *testing.T) {
	x, y := name("x"), name("y")
	patterns := map[string]impl.Method{
		"a": method("a", "", ""), "Main": method("Main", "", ""), longName: method(longName, "", ""),
		"k: x": method("k:", "x", ""), "at: x put: y": method("at:put:", "x y", ""), "a: x b: y c: z": method("a:b:c:", "x y z", ""),
		"a: x b: y c: z d: u": method("a:b:c:d:", "x y z u", ""), "k: x k: x": method("k:k:", "x x", ""),
		"class: self end: ends": method("class:end:", "self ends", ""), longName + ": " + longName: method(longName+":", longName, ""),
	}
	for _, s := range operators {
		patterns[s+" x"] = method(s, "x", "")
	}
	bodies := map[string]exprs{
		"": nil, "x": {x}, "x. y": {x, y}, "^ x": {answer(x)}, "x. ^ y": {x, answer(y)}, "(x at: y) size. x := y a; b. [:v | v]. ^ x size + y": {
			send("size", send("at:", x, y)), assign("x", cascade(y, send("a"), send("b"))), block(1, "v", name("v")), answer(send("+", send("size", x), y))},
	}
	for pattern, m := range patterns {
		for list, temps := range map[string]string{"": "", "| t | ": "t", "| t u v | ": "t u v", "| x | ": "x"} {
			for text, body := range bodies {
				m.Temps, m.Body = strings.Fields(temps), body
				rest := pattern + "\n    " + list + text + "\n"
				m.Class = false
				checkMethodText(t, m, "method "+rest)
				m.Class = true
				checkMethodText(t, m, "classmethod "+rest)
			}
		}
	}
}

// TestPrintUnits has units with no class and with some, and classes with and
// without Fields and Methods.
func TestPrintUnits(t *testing.T) {
	x := name("x")
	checkUnitText(t, sampleUnit(), "class a extends b\nfields x t\nmethod at: a put: b\n    | t | x at: a put: b. [:x | x]. ^ t\nclassmethod + x\n    x size; + 1\nmethod size\n    \nend\n"+
		"class b extends a\nend\nclass x extends x\nfields a\nmethod at: x\n    | a b | 'it''s'\nend\nmain\n    | a b | a := x size. ^ a\n")
	methods := []impl.Method{method("a", "", ""), classMethod("+", "y", "t", x), method("k:l:", "y z", "", x, answer(x))}
	texts := []string{"method a\n    \n", "classmethod + y\n    | t | x\n", "method k: y l: z\n    x. ^ x\n"}
	var classes []impl.ClassDef
	var parts []string
	for fields, line := range map[string]string{"": "", "x": "fields x\n", "x y": "fields x y\n", "x y z x": "fields x y z x\n"} {
		for n := range 4 {
			classes = append(classes, class("A", "Object", fields, methods[:n]...))
			parts = append(parts, "class A extends Object\n"+line+strings.Join(texts[:n], "")+"end\n")
		}
	}
	for end, main := range map[string]impl.Method{
		"main\n    \n": mainOf(""), "main\n    x\n": mainOf("", x), "main\n    | x | \n": mainOf("x"),
		"main\n    | x y | x size. ^ x\n": mainOf("x y", send("size", x), answer(x)),
	} {
		checkUnitText(t, unit(main), end)
		for i := range classes {
			checkUnitText(t, unit(main, classes[i]), parts[i]+end)
			for n := 2; i+n <= len(classes) && n <= 8; n++ {
				checkUnitText(t, unit(main, classes[i:i+n]...), strings.Join(parts[i:i+n], "")+end)
			}
		}
	}
	checkUnitText(t, unit(mainOf(""), class(longName, "self", longName), class("B", longName, "")), "class "+longName+" extends self\nfields "+longName+"\nend\nclass B extends "+longName+"\nend\nmain\n    \n")
}

// TestPrintDeepTrees has expressions as deep as they may be, and deeper ones.
func TestPrintDeepTrees(t *testing.T) {
	x := name("x")
	for _, c := range []struct {
		open, middle, closing string
		times                 int
		leaf                  impl.Expr
		around                func(impl.Expr) impl.Expr
	}{
		{"x := ", "x", "", 24, x, func(e impl.Expr) impl.Expr { return assign("x", e) }},
		{"", "x", " a", 24, x, func(e impl.Expr) impl.Expr { return send("a", e) }},
		{"", "x", " + x", 24, x, func(e impl.Expr) impl.Expr { return send("+", e, x) }},
		{"x + (", "x + x", ")", 23, send("+", x, x), func(e impl.Expr) impl.Expr { return send("+", x, e) }},
		{"x a: x b: (", "x a: x b: x", ")", 23, send("a:b:", x, x, x), func(e impl.Expr) impl.Expr { return send("a:b:", x, x, e) }},
		{"(", "x a: x", ") a: x", 23, send("a:", x, x), func(e impl.Expr) impl.Expr { return send("a:", e, x) }},
		{"[:a | | b | ", "[]", "]", 24, block(0, ""), func(e impl.Expr) impl.Expr { return block(1, "a b", e) }},
		{"[x. ^ ", "x", "]", 12, x, func(e impl.Expr) impl.Expr { return block(0, "", x, answer(e)) }},
		{"(", "x := x", ") a; b", 23, assign("x", x), func(e impl.Expr) impl.Expr { return cascade(e, send("a"), send("b")) }},
		{"x a; + (", "x a; + x", ")", 11, cascade(x, send("a"), send("+", x)), func(e impl.Expr) impl.Expr { return cascade(x, send("a"), send("+", e)) }},
	} {
		e := c.leaf
		for range c.times {
			e = c.around(e)
		}
		s := nested(c.times, c.open, c.middle, c.closing)
		if depthOf(e) != impl.MaxDepth {
			t.Errorf("%q has a depth of %d", s, depthOf(e))
		}
		checkText(t, e, s)
		checkNoText(t, c.around(e), block(0, "", e), answer(e), send("size", e))
	}
	checkTextAlone(t, answer(deep(24)), "^ "+nested(23, "x := ", "x", ""))
	checkNoText(t, answer(deep(25)), deep(26))
	checkMethodText(t, method("a", "", "", deep(24)), "method a\n    "+nested(23, "x := ", "x", "")+"\n")
	checkUnitText(t, unit(mainOf("", answer(deep(23)))), "main\n    ^ "+nested(22, "x := ", "x", "")+"\n")
	checkNoMethodText(t, method("a", "", "", deep(25)), method("a", "", "", answer(deep(24))))
}

// TestPrintWideTrees has expressions as large as they may be, and larger ones.
func TestPrintWideTrees(t *testing.T) {
	x := name("x")
	list := strings.Repeat("x. ", 298) + "x"
	checkText(t, wide(300), "["+list+"]")
	checkText(t, cascade(append(exprs{x}, slices.Repeat(exprs{send("a")}, 298)...)...), "x a"+strings.Repeat("; a", 297))
	checkMethodText(t, method("a", "", "", wide(300).Kids...), "method a\n    "+list+"\n")
	checkUnitText(t, unit(mainOf("", wide(300).Kids...)), "main\n    "+list+"\n")
	checkNoText(t, wide(301), wide(100000), block(0, "", wide(300)), cascade(append(exprs{x}, slices.Repeat(exprs{send("a")}, 299)...)...))
	checkNoMethodText(t, method("a", "", "", wide(301).Kids...))
	checkText(t, doubled(4, x), "x + x + (x + x) + (x + x + (x + x))")
	checkText(t, block(0, "", doubled(7, x)), "["+impl.FormatExpr(doubled(7, x))+"]")
	checkNoText(t, doubled(9, x))
}

// TestPrintHugeTrees has values of which the texts would fill the memory.
func TestPrintHugeTrees(t *testing.T) {
	x := name("x")
	if impl.FormatExpr(doubled(9, x)) != "" || impl.FormatMethod(method("a", "", "", doubled(9, x))) != "" || impl.FormatUnit(unit(mainOf("", doubled(9, x)))) != "" {
		t.Fatal("a tree is too large")
	}
	for _, e := range []impl.Expr{doubled(60, x), doubled(200, x), deep(300000), endless(1, "x"), endless(3, "x"), answer(endless(2, "x")), send("+", x, endless(1, "x"))} {
		m := method("a", "", "", e)
		if impl.FormatExpr(e) != "" || impl.FormatMethod(m) != "" || impl.FormatUnit(withMethod(m)) != "" || impl.FormatUnit(unit(mainOf("", e))) != "" {
			t.Error("a huge tree has a text")
		}
	}
}

// TestPrintLongTexts has texts that no source may have, and such as Join makes
// none of.
func TestPrintLongTexts(t *testing.T) {
	long := textOf(strings.Repeat("'", 40))
	e := block(0, "", slices.Repeat(exprs{long}, 299)...)
	list := strings.Repeat(strings.Repeat("'", 82)+". ", 298) + strings.Repeat("'", 82)
	checkTextAlone(t, e, "["+list+"]")
	checkNoParse(t, "["+list+"]")
	m := method("a", "", "", e.Kids...)
	checkMethodTextAlone(t, m, "method a\n    "+list+"\n")
	checkUnitTextAlone(t, unit(mainOf("", e.Kids...)), "main\n    "+list+"\n")
	full := unit(mainOf(""), slices.Repeat([]impl.ClassDef{class("A", "Object", "a b c d", slices.Repeat([]impl.Method{m}, 12)...)}, 8)...)
	checkUnitTextAlone(t, full, strings.Repeat("class A extends Object\nfields a b c d\n"+strings.Repeat("method a\n    "+list+"\n", 12)+"end\n", 8)+"main\n    \n")

	names := strings.Repeat(longName+" ", 100000)
	for _, kids := range []exprs{nil, {name("x")}} {
		body := strings.Repeat("x", len(kids))
		checkTextAlone(t, block(0, names, kids...), "[| "+names+"| "+body+"]")
		checkTextAlone(t, block(100000, names, kids...), "["+strings.Repeat(":"+longName+" ", 100000)+"| "+body+"]")
		checkTextAlone(t, block(1, "a "+names, kids...), "[:a | | "+names+"| "+body+"]")
		checkMethodTextAlone(t, method("+", "a", names, kids...), "method + a\n    | "+names+"| "+body+"\n")
		checkUnitTextAlone(t, unit(mainOf(names, kids...)), "main\n    | "+names+"| "+body+"\n")
	}
}

func TestPrintNoExprs(t *testing.T) {
	x, r := name("x"), answer(name("x"))
	checkNoText(t,
		impl.Expr{}, impl.Expr{Kind: -1}, impl.Expr{Kind: 10}, impl.Expr{Kind: math.MaxInt}, impl.Expr{Kind: math.MinInt, Text: "x"}, impl.Expr{Text: "x"},
		number(-1), number(1000000000), number(math.MinInt), textOf("\n"), textOf("é"), textOf(strings.Repeat("a", 41)), symbol(""), symbol("end"), symbol("a b"), symbol("a:b:c:d:e:"),
		name(""), name("end"), name("a b"), name("a:"), name(tooLongName), assign("end", x), assign("", x), assign("x", r), impl.Expr{Kind: impl.ExprAssign, Text: "x"},
		send("size"), send("size", x, x), send("+", x), send("+", x, x, x), send("at:put:", x, x), send("a b", x), send("", x), send("class", x), send("size", r), send("+", x, r),
		cascade(), cascade(x), cascade(x, send("a")), cascade(x, x, x), cascade(x, send("a"), send("b", x)), cascade(x, send("a"), send("+")), cascade(r, send("a"), send("b")),
		block(1, ""), block(3, "a b"), block(-1, "a"), block(math.MaxInt, "a"), block(math.MinInt, "a"), block(0, "end"), block(1, "a +"), block(0, "", r, x), block(0, "", r, r),
		impl.Expr{Kind: impl.ExprReturn}, answer(r), impl.Expr{Kind: impl.ExprReturn, Kids: exprs{x, x}}, answer(send("a")),
		impl.Expr{Kind: impl.ExprName, Text: "x", Number: 1}, impl.Expr{Kind: impl.ExprName, Text: "x", Kids: exprs{x}}, impl.Expr{Kind: impl.ExprInt, Text: "1"},
		impl.Expr{Kind: impl.ExprInt, Names: []string{"a"}}, impl.Expr{Kind: impl.ExprBlock, Text: "x"})
	for _, e := range []impl.Expr{sampleTree(), r, block(1, "a b", x, r), cascade(x, send("size"), send("+", x)), send("+", number(1), assign("t", x))} {
		counts := map[bool]int{}
		for at := range nodesOf(&e) {
			for _, change := range changesOfNodes() {
				changed := copyOf(e)
				change(nodesOf(&changed)[at])
				valid := isTree(changed, aStatement)
				counts[valid]++
				if !valid {
					checkNoText(t, changed)
					continue
				}
				checkText(t, changed, impl.FormatExpr(changed))
			}
		}
		if counts[true] < 5 || counts[false] < 20 {
			t.Error(counts)
		}
	}
}

func TestPrintNoMethodsAndNoUnits(t *testing.T) {
	checkNoMethodText(t, impl.Method{}, mainOf(""), method("main", "", "", name("x")), method("end", "", ""), method("a", "x", ""), method("+", "", ""), method("at:put:", "x", ""),
		method("a:b:c:d:e:", "a b c d e", ""), method("", "", ""), method("a b", "", ""), method("a", "", "end"), method("+", "end", ""), classMethod("a", "", "", send("a")),
		method("a", "", "", answer(name("x")), name("x")), classMethod("main", "", ""))
	full := unit(mainOf(""), slices.Repeat([]impl.ClassDef{class("A", "Object", "")}, 9)...)
	for _, u := range []impl.Unit{
		{}, full, unit(method("a", "", "")), unit(classMethod("main", "", "")), unit(method("main", "x", "")), unit(mainOf("end")), unit(mainOf("", send("a"))), unit(mainOf(""), impl.ClassDef{}),
		unit(mainOf(""), class("end", "Object", "")), unit(mainOf(""), class("A", "", "")), unit(mainOf(""), class("A", "Object", "a b c d e")), unit(mainOf(""), class("A", "Object", "main")),
		unit(mainOf(""), class("A", "Object", "", methodList(13)...)), unit(impl.Method{}, class("A", "Object", "")),
	} {
		checkUnitTextAlone(t, u, "")
	}
	for _, m := range []impl.Method{method("size", "", ""), classMethod("at:put:", "a b", "t", name("x"), answer(name("a"))), mainOf("x", answer(name("x")))} {
		for _, change := range changesOfMethods() {
			changed := copyOfMethod(m)
			change(&changed)
			if !isMethodByWords(changed) {
				checkNoMethodText(t, changed)
				continue
			}
			checkMethodText(t, changed, impl.FormatMethod(changed))
		}
	}
	for _, change := range changesOfUnits() {
		changed := copyOfUnit(sampleUnit())
		change(&changed)
		if !isUnitByWords(changed) {
			checkUnitTextAlone(t, changed, "")
			continue
		}
		checkUnitText(t, changed, impl.FormatUnit(changed))
	}
}

// plainText writes an expression as the document says, but for parentheses.
func plainText(e impl.Expr) string {
	var kids []string
	for _, kid := range e.Kids {
		kids = append(kids, plainText(kid))
	}
	switch e.Kind {
	case impl.ExprInt, impl.ExprText, impl.ExprSymbol, impl.ExprName:
		kind := map[int]int{impl.ExprInt: impl.TokInt, impl.ExprText: impl.TokText, impl.ExprSymbol: impl.TokSymbol, impl.ExprName: impl.TokName}[e.Kind]
		return impl.FormatToken(impl.Token{Kind: kind, Text: e.Text, Number: e.Number})
	case impl.ExprAssign:
		return e.Text + " := " + kids[0]
	case impl.ExprReturn:
		return "^ " + kids[0]
	case impl.ExprCascade:
		return kids[0] + " " + strings.Join(kids[1:], "; ")
	case impl.ExprBlock:
		s := strings.Join(append([]string{""}, e.Names[:e.Number]...), " :")
		if s != "" {
			s = s[1:] + " | "
		}
		return "[" + s + plainBody(e.Names[e.Number:], e.Kids) + "]"
	}
	args := impl.CountArgs(e.Text)
	words := kids[:len(kids)-args]
	if args == 0 {
		words = append(words, e.Text)
	}
	for i, part := range strings.SplitAfter(e.Text, ":")[:args] {
		words = append(slices.Clone(words), part, kids[len(kids)-args+i])
	}
	return strings.Join(words, " ")
}

func plainBody(temps []string, statements exprs) string {
	var list []string
	for _, e := range statements {
		list = append(list, plainText(e))
	}
	s := strings.Join(list, ". ")
	if len(temps) > 0 {
		s = "| " + strings.Join(temps, " ") + " | " + s
	}
	return s
}

func plainMethodText(m impl.Method) string {
	word, pattern := "method ", m.Selector
	if m.Class {
		word = "classmethod "
	}
	if len(m.Params) > 0 {
		var list []string
		for i, part := range strings.SplitAfter(m.Selector, ":")[:len(m.Params)] {
			list = append(list, part+" "+m.Params[i])
		}
		pattern = strings.Join(list, " ")
	}
	return word + pattern + "\n    " + plainBody(m.Temps, m.Body) + "\n"
}

func plainUnitText(u impl.Unit) string {
	s := ""
	for _, c := range u.Classes {
		s += "class " + c.Name + " extends " + c.Parent + "\n"
		if len(c.Fields) > 0 {
			s += "fields " + strings.Join(c.Fields, " ") + "\n"
		}
		for _, m := range c.Methods {
			s += plainMethodText(m)
		}
		s += "end\n"
	}
	return s + "main\n    " + plainBody(u.Main.Temps, u.Main.Body) + "\n"
}

// withoutParentheses leaves all parentheses out of a text whose quoted parts
// have none.
func withoutParentheses(s string) string {
	return strings.NewReplacer("(", "", ")", "").Replace(s)
}

// withoutPairs returns the sources that a source becomes without one pair of
// its parentheses.
func withoutPairs(t *testing.T, s string) []string {
	t.Helper()
	tokens, ok := impl.Tokens(s)
	if !ok {
		t.Fatalf("%q has no tokens", s)
	}
	var sources []string
	var open []int
	for i, token := range tokens {
		if token == mark("(") {
			open = append(open, i)
		}
		if token != mark(")") {
			continue
		}
		var list []string
		for j, other := range tokens {
			if j != i && j != open[len(open)-1] {
				list = append(list, impl.FormatToken(other))
			}
		}
		open = open[:len(open)-1]
		sources = append(sources, strings.Join(list, " "))
	}
	return sources
}

// TestPrintMadeTrees reads trees from their texts, which have the parentheses
// that this takes, and no others.
func TestPrintMadeTrees(t *testing.T) {
	m := maker{rand.New(rand.NewSource(12))}
	read, pairs := 0, 0
	for range 10000 {
		e := m.value(1 + m.Intn(6))
		if !impl.IsExpr(e) {
			checkNoText(t, e)
			continue
		}
		s := impl.FormatExpr(e)
		if withoutParentheses(s) != plainText(e) {
			t.Errorf("FormatExpr(%s) = %.300q, which is %.300q but for parentheses", brief(e), s, plainText(e))
		}
		if _, ok := impl.Tokens(s); !ok {
			continue
		}
		read++
		checkReadAs(t, s, e)
		for _, source := range withoutPairs(t, s) {
			pairs++
			if other, ok := impl.ParseExpr(source); ok && impl.EqualExprs(other, e) {
				t.Errorf("FormatExpr(%s) = %.300q, where %.300q is the same", brief(e), s, source)
			}
		}
	}
	if read < 8000 || pairs < 15000 {
		t.Error("there are only", read, "trees and", pairs, "pairs of parentheses")
	}
}

// TestPrintMadeUnits reads methods and units from their texts.
func TestPrintMadeUnits(t *testing.T) {
	m := maker{rand.New(rand.NewSource(13))}
	read := 0
	for range 5000 {
		one, _ := m.method()
		s := impl.FormatMethod(one)
		if withoutParentheses(s) != plainMethodText(one) {
			t.Errorf("FormatMethod(%s) = %.300q, which is %.300q but for parentheses", brief(one), s, plainMethodText(one))
		}
		checkUnitTextAlone(t, withMethod(one), textAround(s))
		if _, ok := impl.Tokens(textAround(s)); ok {
			read++
			checkMethod(t, s, one)
			checkUnit(t, textAround(s), withMethod(one))
		}
		all, _ := m.unit()
		s = impl.FormatUnit(all)
		if withoutParentheses(s) != plainUnitText(all) {
			t.Errorf("FormatUnit(%s) = %.300q, which is %.300q but for parentheses", brief(all), s, plainUnitText(all))
		}
		if _, ok := impl.Tokens(s); ok {
			read++
			checkUnit(t, s, all)
		}
	}
	if read < 8000 {
		t.Error("there are only", read, "methods and units")
	}
}

// TestPrintWhatIsRead has sources that are written in other ways than texts are.
func TestPrintWhatIsRead(t *testing.T) {
	for s, want := range map[string]string{
		"((x))": "x", "(x size)size": "x size size", "x+(y)": "x + y", "(x + y) - z": "x + y - z", "x at:(y+z)put:(z)": "x at: y + z put: z", "(x at: y)size": "(x at: y) size",
		"x:=(y:=3)": "x := y := 3", "(x := y) size": "(x := y) size", "x := (y a; b)": "x := y a; b", "(x+y)*z;a": "x + y * z; a", "(x at: y) at: z; a": "(x at: y) at: z; a",
		"007": "7", "'it''s'": "'it''s'", "\"note\"#at:put:": "#at:put:", "[||]": "[]", "[:a|||]": "[:a | ]", "[:a|| |x.]": "[:a | x]", "[|a b|^x.]": "[| a b | ^ x]", "[(x := y). (^ x)]": "",
		"[(x a;b).(x at: y)]": "[x a; b. x at: y]", "[^(x := y)]": "[^ x := y]", "x": "x", "\n[ ]\t": "[]",
	} {
		e, ok := impl.ParseExpr(s)
		if ok != (want != "") {
			t.Errorf("ParseExpr(%q) = %v, %v", s, e, ok)
		}
		if ok {
			checkText(t, e, want)
		}
	}
	u, ok := impl.ParseUnit("class A extends B fields method+n^((n))classmethod a||x.end main|a b|a:=(b size).")
	if !ok {
		t.Fatal("no unit")
	}
	checkUnitText(t, u, "class A extends B\nmethod + n\n    ^ n\nclassmethod a\n    x\nend\nmain\n    | a b | a := b size\n")
}

func TestPrintedValuesAreNotModified(t *testing.T) {
	for _, e := range []impl.Expr{sampleTree(), block(3, "a end", answer(name("a")), send("a b")), wide(300), wide(400), deep(25), deep(30), doubled(4, name("x")), answer(sampleTree())} {
		e = roomy(e)
		before := wholeOf(e)
		s := impl.FormatExpr(e)
		if !reflect.DeepEqual(wholeOf(e), before) || impl.FormatExpr(e) != s {
			t.Errorf("%s is modified", brief(before))
		}
	}
	for _, u := range []impl.Unit{sampleUnit(), {}, unit(method("b", "x y", "end"), classList(20)...), withMethod(method("a:b:", "x y", "z", deep(24), wide(200)))} {
		u = roomyUnit(u)
		before := wholeOfUnit(u)
		s := impl.FormatUnit(u)
		for _, m := range methodsOf(&u) {
			impl.FormatMethod(*m)
		}
		if !reflect.DeepEqual(wholeOfUnit(u), before) || impl.FormatUnit(u) != s {
			t.Errorf("%s is modified", brief(before))
		}
	}
}
