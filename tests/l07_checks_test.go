package tests

import (
	"math/rand"
	"reflect"
	"regexp"
	"slices"
	"strconv"
	"strings"
	"testing"

	"loop.example/g03108/impl"
)

var (
	builtinList  = strings.Fields("Object Exception Error MessageNotUnderstood ZeroDivide Integer Boolean Nil String Symbol Array Block Semaphore Process Transcript Class")
	extendable   = builtinList[:5]
	reservedList = strings.Fields("self super nil true false")
)

// checkProblem compares the first problem of a unit, "" for none.
func checkProblem(t *testing.T, u impl.Unit, want string) {
	t.Helper()
	if got, ok := impl.CheckUnit(u); got != want || !ok {
		t.Errorf("CheckUnit(%s) = %q, %v, want %q", brief(u), got, ok, want)
	}
}

// checkNoProblem has values that are no units.
func checkNoProblem(t *testing.T, list ...impl.Unit) {
	t.Helper()
	for _, u := range list {
		if got, ok := impl.CheckUnit(u); got != "" || ok {
			t.Errorf("CheckUnit(%s) = %q, %v", brief(u), got, ok)
		}
	}
}

// checkSource compares the first problem of a source.
func checkSource(t *testing.T, source, want string) {
	t.Helper()
	u, ok := impl.ParseUnit(source)
	if !ok {
		t.Fatalf("%q is no unit", source)
	}
	if got, ok := impl.CheckUnit(u); got != want || !ok {
		t.Errorf("CheckUnit of %q = %q, %v, want %q", source, got, ok, want)
	}
}

// checkSources has sources and their problems by turns.
func checkSources(t *testing.T, lines ...string) {
	t.Helper()
	for i := 0; i < len(lines); i += 2 {
		checkSource(t, lines[i], lines[i+1])
	}
}

// checkBody compares the first problem of a body in Main, in a method and in a
// method for the class itself, in a class without fields.
func checkBody(t *testing.T, body, want string) {
	t.Helper()
	checkSource(t, "class A extends Object end main "+body, want)
	checkSource(t, "class A extends Object method m "+body+" end main", want)
	checkSource(t, "class A extends Object classmethod m "+body+" end main", want)
	checkSource(t, "class A extends Object method at: z1 put: z2 "+body+" end main", want)
}

// checkBodies has bodies and their problems by turns.
func checkBodies(t *testing.T, lines ...string) {
	t.Helper()
	for i := 0; i < len(lines); i += 2 {
		checkBody(t, lines[i], lines[i+1])
	}
}

func TestBuiltinClasses(t *testing.T) {
	first := impl.BuiltinClasses()
	if !slices.Equal(first, builtinList) || len(first) != 16 {
		t.Errorf("BuiltinClasses() = %q", first)
	}
	second := impl.BuiltinClasses()
	clear(first[:cap(first)])
	first = append(first[:3], "Other")
	if third := impl.BuiltinClasses(); !slices.Equal(second, builtinList) || !slices.Equal(third, builtinList) {
		t.Errorf("after %q was written, BuiltinClasses() = %q and %q", first, second, third)
	}
	checkSource(t, "class Array extends Object end main", "class Array is there already")
	checkSource(t, "class Other extends Object end main ^ Error", "")
}

func TestCheckUnitsWithoutProblem(t *testing.T) {
	for _, s := range []string{
		"main", "main ^ 1", "main | a | a := 'text'. ^ a", "main ^ self", "main ^ #self", "main nil. true. false. self", "main ^ [:a | a] value: #a:b:",
		"class A extends Object end main", "class A extends Object end main ^ A new",
		"class A extends Object end class B extends A end class C extends A end class D extends C end main ^ D",
		"class A extends Error fields a b method a ^ text, a method a: v a := text := v end main ^ (A new) a: 3; a",
		"class A extends Object fields x method x ^ x method x: v x := v classmethod x ^ self new x: 3; x end main ^ A x",
		"class A extends Object method m ^ B end class B extends A method m ^ super m end main ^ B new m",
		"class A extends Object classmethod new ^ super new a; b method a method b end main ^ [:a | [:b | [| c d | c := d := a + b]]]",
		"main | q | 1 to: 3 do: [:i | | t | t := i. q := t]. 1 to: 3 do: [:i | | t | t := i]",
		"class a extends Object fields m method m: size | m1 | size foo: m. m := m1. m1 := a end main | size | size bar. #bar. 'q'. ^ size",
	} {
		checkSource(t, s, "")
	}
	checkProblem(t, unit(mainOf("")), "")
	checkProblem(t, unit(mainOf(""), class(longName, "Object", "f"+longName[1:]), class("B", longName, "")), "")
}

func TestCheckValuesThatAreNoUnits(t *testing.T) {
	full := slices.Repeat([]impl.ClassDef{class("A", "Object", "")}, 9)
	checkNoProblem(t, impl.Unit{}, unit(mainOf(""), full...), unit(method("a", "", "")), unit(classMethod("main", "", "")), unit(method("main", "x", "")), unit(mainOf("end")),
		unit(mainOf("", send("a"))), unit(mainOf(""), impl.ClassDef{}), unit(mainOf(""), class("end", "Object", "")), unit(mainOf(""), class("A", "", "")),
		unit(mainOf("", name("q")), class("nil", "Array", "a b c d e")), unit(mainOf(""), class("A", "Object", "main")), unit(mainOf("", send("size", name("super"), name("q")))),
		unit(mainOf(""), class("A", "Object", "", methodList(13)...)), unit(impl.Method{}, class("A", "Object", "")), unit(mainOf(""), class("A", "Object", "", method("end", "", ""))),
		withMethod(method("at:", "", "")), withMethod(method("m", "", "", answer(name("x")), name("x"))), unit(mainOf("", impl.Expr{})), unit(mainOf("", cascade(name("super"), send("a")))),
		unit(mainOf("", doubled(60, name("x")))), unit(mainOf("", deep(300000))), unit(mainOf("", endless(2, "x"))), unit(mainOf("", impl.Expr{Kind: impl.ExprSend, Text: "a"})))
	counts := map[bool]int{}
	for _, change := range changesOfUnits() {
		changed := copyOfUnit(sampleUnit())
		change(&changed)
		valid := isUnitByWords(changed)
		counts[valid]++
		if !valid {
			checkNoProblem(t, changed)
			continue
		}
		checkProblem(t, changed, firstProblem(changed))
	}
	if counts[true] < 500 || counts[false] < 500 {
		t.Error(counts)
	}
}

func TestCheckNamesOfClasses(t *testing.T) {
	for _, s := range slices.Concat(builtinList, reservedList) {
		want := "class " + s + " is there already"
		checkSource(t, "class "+s+" extends Object end main", want)
		checkSource(t, "class A extends Object end class "+s+" extends A end main", want)
		checkSource(t, "class "+s+" extends Object end class A extends Object end main", want)
		checkSource(t, "class "+s[:3]+"1 extends Object end main", "")
	}
	checkSources(t,
		"class A extends Object end class A extends Object end main", "class A is there already",
		"class A extends Object end class A extends A end main", "class A is there already",
		"class A extends Object end class B extends A end class A extends B end main", "class A is there already",
		"class A extends Object end class B extends A end class B extends A end main", "class B is there already",
		"class A extends Object end class B extends A end class C extends A end class B extends C end class A extends A end main", "class B is there already",
		"class A extends Object end class a extends Object end class AA extends Object end main", "",
		"class Self extends Object end class object extends Object end class NIL extends Object end class text extends Object end class size extends Object end main", "")
	for at := range 7 {
		list := classList(8)
		for i := range list {
			list[i].Name = "C" + strconv.Itoa(i)
		}
		checkProblem(t, unit(mainOf(""), list...), "")
		list[7].Name = list[at].Name
		checkProblem(t, unit(mainOf(""), list...), "class C"+strconv.Itoa(at)+" is there already")
	}
}

func TestCheckParentsOfClasses(t *testing.T) {
	for _, s := range builtinList {
		want := "class " + s + " can not be extended"
		if slices.Contains(extendable, s) {
			want = ""
		}
		checkSource(t, "class A extends "+s+" end main", want)
		checkSource(t, "class A extends Object end class B extends "+s+" end main", want)
	}
	for _, s := range append(strings.Fields("Q object Objects text size x"), reservedList...) {
		checkSource(t, "class A extends "+s+" end main", "class "+s+" can not be extended")
	}
	checkSources(t,
		"class A extends A end main", "class A can not be extended",
		"class A extends B end class B extends Object end main", "class B can not be extended",
		"class A extends Object end class B extends C end class C extends A end main", "class C can not be extended",
		"class A extends Object end class B extends B end main", "class B can not be extended",
		"class A extends Object end class B extends A end class C extends B end class D extends A end class E extends D end main", "",
		"class A extends Object fields x end class B extends x end main", "class x can not be extended",
		"class A extends ZeroDivide end class B extends A end class C extends Integer end main", "class Integer can not be extended")
}

func TestCheckFieldsOfClasses(t *testing.T) {
	for _, s := range slices.Concat(builtinList, reservedList, []string{"A", "B", "C"}) {
		want := "field " + s + " is in use"
		checkSource(t, "class A extends Object fields "+s+" end class B extends A end class C extends B end main", want)
		checkSource(t, "class A extends Object end class B extends A fields x "+s+" y end class C extends A end main", want)
		checkSource(t, "class A extends Object end class B extends A end class C extends B fields x y z "+s+" end main", want)
	}
	for _, s := range extendable[1:] {
		checkSource(t, "class A extends "+s+" fields text end main", "field text is in use")
		checkSource(t, "class A extends "+s+" fields a b text end main", "field text is in use")
		checkSource(t, "class A extends "+s+" fields a end class B extends A fields text end main", "field text is in use")
		checkSource(t, "class A extends "+s+" end class B extends A end class C extends B fields b text end main", "field text is in use")
		checkSource(t, "class A extends "+s+" end class B extends Object fields text end class C extends B end main", "")
	}
	checkSources(t,
		"class A extends Object fields text end main", "",
		"class A extends Object fields x x end main", "field x is in use",
		"class A extends Object fields x y z x end main", "field x is in use",
		"class A extends Object fields x y y x end main", "field y is in use",
		"class A extends Object fields x y end class B extends A fields y end main", "field y is in use",
		"class A extends Object fields x y end class B extends A fields z y x end main", "field y is in use",
		"class A extends Object fields x end class B extends A fields y end class C extends B fields x end main", "field x is in use",
		"class A extends Object fields x end class B extends A fields y end class C extends B fields z y end main", "field y is in use",
		"class A extends Object fields x end class B extends A end class C extends B fields x end main", "field x is in use",
		"class A extends Object fields x end class B extends Object fields x end main", "",
		"class A extends Object end class B extends A fields x end class C extends A fields x end main", "",
		"class A extends Object fields x end class B extends A fields X xx y end main", "",
		"class A extends Object fields m size new method m: p ^ p method size ^ size end main", "")
}

func TestCheckNumbersOfFields(t *testing.T) {
	a, b := class("A", "Object", "a b c d"), class("B", "A", "e f g h")
	checkProblem(t, unit(mainOf(""), a, b), "")
	checkProblem(t, unit(mainOf(""), a, b, class("C", "B", "")), "")
	checkProblem(t, unit(mainOf(""), a, b, class("C", "B", "i")), "class C has too many fields")
	checkProblem(t, unit(mainOf(""), a, b, class("C", "A", "i j k l"), class("D", "Object", "a b c d")), "")
	checkProblem(t, unit(mainOf(""), a, b, class("C", "B", ""), class("D", "C", "i j k l")), "class D has too many fields")
	checkProblem(t, unit(mainOf(""), a, class("B", "A", "e"), class("C", "B", "f g h"), class("D", "C", ""), class("E", "D", "i")), "class E has too many fields")
	checkProblem(t, unit(mainOf(""), a, class("B", "A", "e"), class("C", "B", "f g h i")), "class C has too many fields")
	for _, s := range extendable[1:] {
		e := class("A", s, "a b c d")
		checkProblem(t, unit(mainOf(""), e, class("B", "A", "e f g")), "")
		checkProblem(t, unit(mainOf(""), e, class("B", "A", "e f g h")), "class B has too many fields")
		checkProblem(t, unit(mainOf(""), e, class("B", "A", "e f"), class("C", "B", "g"), class("D", "C", "")), "")
		checkProblem(t, unit(mainOf(""), e, class("B", "A", "e f g"), class("C", "B", "h")), "class C has too many fields")
	}
	eight := []impl.ClassDef{class("C0", "Object", "")}
	for i := 1; i < 8; i++ {
		eight = append(eight, class("C"+strconv.Itoa(i), "C"+strconv.Itoa(i-1), "f"+strconv.Itoa(i)))
	}
	checkProblem(t, unit(mainOf(""), eight...), "")
	eight[3].Fields = strings.Fields("f3 g3")
	checkProblem(t, unit(mainOf(""), eight...), "")
	eight[5].Fields = strings.Fields("f5 g5")
	checkProblem(t, unit(mainOf(""), eight...), "class C7 has too many fields")
}

func TestCheckMethodsThatStandTwice(t *testing.T) {
	for _, s := range append([]string{"m", "size", "main:", "at:", "at:put:", "class:", "a:b:c:d:"}, operators...) {
		params := []string{"", "p", "p q", "p q r", "p q r s"}[impl.CountArgs(s)]
		one, two := method(s, params, ""), classMethod(s, params, "")
		other := []impl.Method{method("z", "", ""), classMethod("z", "", "")}
		want := "method " + s + " is there already"
		for _, list := range [][]impl.Method{{one, one}, {two, two}, {one, two, one}, {two, one, two}, {one, other[0], other[1], one}, {other[0], other[1], two, two}} {
			checkProblem(t, unit(mainOf(""), class("A", "Object", "", list...)), want)
			checkProblem(t, unit(mainOf(""), class("A", "Object", "", one, two), class("B", "A", "", list...)), want)
		}
		for _, list := range [][]impl.Method{{one}, {two}, {one, two}, {two, one}, {two, other[0], one, other[1]}} {
			checkProblem(t, unit(mainOf(""), class("A", "Object", "", list...), class("B", "A", "", list...), class("C", "Object", "", list...)), "")
		}
	}
	checkSources(t,
		"class A extends Object method a method b method b method a end main", "method b is there already",
		"class A extends Object method a method b method a method b end main", "method a is there already",
		"class A extends Object method a classmethod b method b classmethod b method a end main", "method b is there already",
		"class A extends Object method a: x method a: x b: y method a end main", "",
		"class A extends Object method at: x put: y method put: x at: y method at: x method put: y end main", "",
		"class A extends Object method at: x put: y ^ 1 method at: q put: r ^ 2 end main", "method at:put: is there already")
}

// declarations are blocks in which X is declared as a parameter or a variable.
func declarations() []string {
	return []string{"[:X | ]", "[:X :z | z]", "[:y :z :X | ]", "[| X | ]", "[| y X z | z]", "[:y | | X | ]", "[:y | | z X | y]", "[:y | [:X | ]]", "[[| X | ]]"}
}

// checkInUse compares what a name gives, "" or its use, that is declared in
// blocks, by the parameters or by the variables of methods, behind some classes.
func checkInUse(t *testing.T, classes, s, inMethod, inClassMethod, inMain string) {
	t.Helper()
	text := func(problem string) string {
		if problem != "" {
			problem = "name " + s + " is in use"
		}
		return problem
	}
	for _, block := range declarations() {
		block = strings.ReplaceAll(block, "X", s)
		for _, body := range []string{block, "nil. " + block, "nil foo: " + block + " bar: 3", block + " a; b", "nil a; b: " + block, "^ " + block, "[[nil] a: [" + block + "]] b"} {
			checkSource(t, classes+" method m: k "+body+" end main", text(inMethod))
			checkSource(t, classes+" classmethod m: k "+body+" end main", text(inClassMethod))
			checkSource(t, classes+" end main "+body, text(inMain))
		}
	}
	for _, pattern := range []string{"m | X |", "m | y X |", "m: y | X z |", "m: X", "m: y n: X", "m: X n: y | z |", "+ X", "a: y b: z c: X"} {
		pattern = strings.ReplaceAll(pattern, "X", s)
		checkSource(t, classes+" method "+pattern+" end main", text(inMethod))
		checkSource(t, classes+" classmethod "+pattern+" end main", text(inClassMethod))
	}
	checkSource(t, classes+" end main | "+s+" |", text(inMain))
	checkSource(t, classes+" end main | z "+s+" y | z", text(inMain))
}

func TestCheckNamesThatAreInUse(t *testing.T) {
	for _, s := range slices.Concat(builtinList, reservedList, []string{"A", "B", "C"}) {
		checkInUse(t, "class A extends Object end class C extends A end class B extends C fields f", s, "in use", "in use", "in use")
	}
	checkInUse(t, "class A extends Object end class B extends A fields x", "x", "in use", "", "")
	checkInUse(t, "class B extends Object fields w x v u", "x", "in use", "", "")
	checkInUse(t, "class A extends Object fields w x end class B extends A fields v", "x", "in use", "", "")
	checkInUse(t, "class A extends Object fields x end class C extends A fields v end class B extends C", "x", "in use", "", "")
	for _, s := range extendable[1:] {
		checkInUse(t, "class B extends "+s, "text", "in use", "", "")
		checkInUse(t, "class A extends "+s+" fields x end class B extends A fields v", "text", "in use", "", "")
	}
	checkInUse(t, "class A extends Error fields x end class B extends Object fields v", "x", "", "", "")
	checkInUse(t, "class A extends Error fields x end class B extends Object fields v", "text", "", "", "")
	checkInUse(t, "class A extends Object fields v method x: q ^ q end class B extends A method x classmethod x", "x", "", "", "")
	checkInUse(t, "class B extends Object method n: x | q | q := [:w | w] method o | x | ", "x", "", "", "")
}

// TestCheckNamesOfBlocks has names that are declared more than once.
func TestCheckNamesOfBlocks(t *testing.T) {
	checkBodies(t,
		"| x | [:x | ]", "name x is in use", "| x | [| x | ]", "name x is in use", "| y x | [[:a | | b x | ]]", "name x is in use",
		"[:x | [:x | ]]", "name x is in use", "[:x | [| x | ]]", "name x is in use", "[| x | [:x | ]]", "name x is in use", "[| x | [| x | ]]", "name x is in use",
		"[:a :x | [[[:b | | c x | ]]]]", "name x is in use", "[:a | | b x | nil foo: 3 bar: [:c :x | ]]", "name x is in use",
		"[:x | nil. [:y | ]. [:z | [:y | [:x | ]]]]", "name x is in use", "[:x | ^ nil a; b: [:x | ]]", "name x is in use",
		"[:x | ]. [:x | ]", "", "[:x | x]. [| x | x := 3]. [:a | | x | [:b | ]]. [:b | | a | ]", "", "[:x | ] foo: [:x | ] bar: [| x | ]", "", "[:x | ] foo: [:x | ]; bar: [:x | ]", "",
		"[[:x | x]. [:x | x]]. [:x | x]", "", "[:x | [:y | ]. [:y | ]]. [:y | [:x | ]. [:x | ]]", "",
		"x := 3. [:x | ]", "name x can not be assigned", "[:x | ]. x", "name x is unknown",
		"[:x :x | ]", "name x is in use", "[| x x | ]", "name x is in use", "[:x | | x | ]", "name x is in use", "[:a :x | | b x c | ]", "name x is in use", "| x x |", "name x is in use", "| x y x |", "name x is in use")
	checkSources(t,
		"class A extends Object method m: x n: x end main", "name x is in use", "class A extends Object method m: x | x | end main", "name x is in use",
		"class A extends Object classmethod m: y n: x | z x | end main", "name x is in use", "class A extends Object classmethod m: x [:x | ] end main", "name x is in use",
		"class A extends Object method m: y n: x [[| x | ]] end main", "name x is in use", "class A extends Object method + x nil foo: [:y | | x | ] end main", "name x is in use",
		"class A extends Object method m: x | y | classmethod m: y | x | method n: y [:x | ] method o | x y | end main | y x |", "")
}

// checkUse compares the first problem of a use of a name at all places, behind
// some classes and in the last one of them, which has names with z alone.
func checkUse(t *testing.T, classes, use, inMethod, inClassMethod, inMain string) {
	t.Helper()
	for _, body := range []string{
		"X", "^ X", "nil. X. nil", "X foo", "X foo bar", "X + 1", "X at: 1 put: 2", "1 + X", "1 at: X", "1 at: X put: 2", "1 at: 2 put: X", "(1 at: (2 + X)) foo", "X foo; bar", "X + 1; bar",
		"nil foo: X; bar", "nil + X; * 2; bar", "nil foo; bar: X", "nil foo; * X", "nil foo: 1 bar: 2; foo: 3 bar: X", "nil foo; bar; foo: X bar: 1; foo", "[X]", "[^ X]", "[nil. X]", "[:z1 | X]", "[:z1 | z1. [| z2 | z2. X]]",
		"nil ifTrue: [X]", "[:z1 | ] foo: [X]", "[| z1 | z1 := X]", "[| z1 | z1 := 1 + X]", "^ [^ X]", "[] foo: []; bar: [:z1 | X. z1]",
	} {
		body = strings.ReplaceAll(body, "X", use)
		checkSource(t, classes+" method z: z3 "+body+" end main", inMethod)
		checkSource(t, classes+" classmethod z: z3 "+body+" end main", inClassMethod)
		checkSource(t, classes+" method zz | z3 | "+body+" end main", inMethod)
		checkSource(t, classes+" end main "+body, inMain)
	}
}

// checkVariable compares what a name gives that is read and that is assigned,
// where it is unknown, known or a variable.
func checkVariable(t *testing.T, classes, s, inMethod, inClassMethod, inMain string) {
	t.Helper()
	read := map[string]string{"unknown": "name " + s + " is unknown"}
	assigned := map[string]string{"unknown": "name " + s + " can not be assigned", "known": "name " + s + " can not be assigned"}
	checkUse(t, classes, s, read[inMethod], read[inClassMethod], read[inMain])
	checkUse(t, classes, "("+s+" := 1)", assigned[inMethod], assigned[inClassMethod], assigned[inMain])
}

func TestCheckNamesThatAreUnknown(t *testing.T) {
	classes := "class A extends Object fields f end class C extends A fields g end class B extends C fields h"
	for _, s := range slices.Concat(builtinList, []string{"self", "nil", "true", "false", "A", "B", "C"}) {
		checkVariable(t, classes, s, "known", "known", "known")
	}
	for _, s := range strings.Fields("q Q a F text size foo z self1 Self thisContext D main1 " + longName) {
		checkVariable(t, classes, s, "unknown", "unknown", "unknown")
	}
	for _, s := range strings.Fields("f g h") {
		checkVariable(t, classes, s, "variable", "unknown", "unknown")
	}
	checkVariable(t, "class A extends Object fields f end class B extends Object fields g", "f", "unknown", "unknown", "unknown")
	checkVariable(t, "class A extends Object fields f end class C extends A fields h end class B extends A fields g", "h", "unknown", "unknown", "unknown")
	for _, s := range extendable {
		text := "variable"
		if s == "Object" {
			text = "unknown"
		}
		checkVariable(t, "class A extends "+s, "text", text, "unknown", "unknown")
		checkVariable(t, "class A extends "+s+" fields f end class B extends A fields g", "text", text, "unknown", "unknown")
		checkVariable(t, "class A extends "+s+" fields f end class B extends Object fields g", "text", "unknown", "unknown", "unknown")
	}
	checkVariable(t, "class A extends Object method m: x | y | y := x. [:w | w]", "x", "unknown", "unknown", "unknown")
	checkVariable(t, "class A extends Object method m: x | y | y := x. [:w | w]", "y", "unknown", "unknown", "unknown")
	checkVariable(t, "class A extends Object method m: x | y | y := x. [:w | w]", "w", "unknown", "unknown", "unknown")
	checkVariable(t, "class A extends Object fields x method a classmethod b", "a", "unknown", "unknown", "unknown")
	checkSource(t, "class A extends Object method m ^ B method n ^ C end class C extends Object method m ^ A. end class B extends C end main A. B. C", "")
}

// TestCheckFieldsOfSiblings has classes with the same parent, which has some
// fields, and a field of its own in each.
func TestCheckFieldsOfSiblings(t *testing.T) {
	for n := range 5 {
		for _, parent := range extendable {
			classes := "class A extends " + parent + " fields " + strings.Join(strings.Fields("a b c d")[:n], " ") + " end "
			for _, pair := range []string{"xx", "xy", "yx", "yy"} {
				want := ""
				if pair[0] != pair[1] {
					want = "name " + pair[1:] + " is unknown"
				}
				field, use := pair[:1], pair[1:]
				other := map[string]string{"x": "y", "y": "x"}[field]
				checkSource(t, classes+"class B extends A fields "+field+" method m ^ "+use+" end class C extends A fields "+other+" end main", want)
				checkSource(t, classes+"class B extends A fields "+other+" end class C extends A fields "+field+" method m ^ "+use+" end main", want)
			}
		}
	}
}

// TestCheckNamesAndTheirBlocks has names that are known in a block alone.
func TestCheckNamesAndTheirBlocks(t *testing.T) {
	x, notX := "name x is unknown", "name x can not be assigned"
	checkBodies(t,
		"[:x | x]", "", "[:x | x := 1]", notX, "[| x | x]", "", "[| x | x := x]", "", "[:y | | x | x := y]", "", "[:y | | x | y := x]", "name y can not be assigned",
		"| x | x := 1. [x := 2]. [[:y | x := y]]. x", "", "[:x | [[:y | y foo: x]]]", "", "[:x | [[:y | x := y]]]", notX, "[:a :b :x | x]. [:a :b :x | x := 1]", notX, "[:a :b | | c x | x := a]", "",
		"[:x | x]. x", x, "x. [:x | x]", x, "[| x | x := 1]. x", x, "[| x | x := 1]. x := 2", notX, "x := 1. [| x | x := 2]", notX, "[:x | x] foo: x", x, "x foo: [:x | x]", x,
		"[:x | ] foo: [x]", x, "[:x | ] foo; bar: [x]", x, "nil foo: [:x | ] bar: [x]", x, "nil foo: [:x | ]; bar: [^ x]", x, "[[:x | x]. x]", x, "[[:x | x]. [x]]", x, "[[| x | ]. x := 1]", notX,
		"[:y | [:x | ]. y] foo: [:y | y]. y", "name y is unknown", "[:x | [:y | y foo: x]. y]", "name y is unknown", "[| x y | ]. [:y | y foo: x]", x,
		"[:x | x]. [| x | x := 1]. [:x | x]", "", "[:x | x]. [:x | x := 1]", notX, "[| x | x := 1]. [:x | x := 1]", notX, "[| x | x := 1] foo: [:x | x] bar: [| x | x := 2]", "",
		"| a b | [:c | | d | [:e | | f | a := b := d := f. a foo: b bar: c; foo: d bar: [^ e a: f b: 3]]]", "")
	for _, kind := range []string{"method ", "classmethod "} {
		for _, pattern := range []string{"m: x", "+ x", "m: y n: x", "m: x n: y", "m: x | t |"} {
			source := "class A extends Object " + kind + pattern
			checkSources(t, source+" ^ x end main", "", source+" [[:z | z foo: x]] end main", "", source+" x := 1 end main", notX, source+" [[:z | x := z]] end main", notX,
				source+" end main x", x, source+" method other x end main", x, source+" classmethod other x end main", x, source+" end class B extends A method m x end main", x)
		}
		for _, pattern := range []string{"m | x |", "+ y | x |", "m: y n: z | a x b |"} {
			source := "class A extends Object " + kind + pattern
			checkSources(t, source+" ^ x := x end main", "", source+" [[:q | x := q]] end main", "",
				source+" end main x", x, source+" method other x := 1 end main", notX, source+" classmethod other x end main", x, source+" end class B extends A method m x := 1 end main", notX)
		}
	}
	checkSource(t, "class A extends Object fields x method m x := x method n ^ x classmethod m | x | x := x classmethod n: x ^ x method o x := 1 end main | x | x := A m. [x := x]", "")
}

func TestCheckSuper(t *testing.T) {
	classes := "class A extends Object fields f end class B extends A fields g"
	outside := "super stands outside of a class"
	for _, s := range []string{"super foo", "super + 1", "(super at: 1 put: 2)", "(super foo) bar", "super foo bar", "super foo + 1", "(super foo: 1)", "(super foo: (super bar))", "[:z9 | super foo: z9]"} {
		if !strings.HasPrefix(s, "[") {
			s = "(" + s + ")"
		}
		checkUse(t, classes, s, "", "", outside)
	}
	checkUse(t, classes, "(super := 1)", "name super can not be assigned", "name super can not be assigned", "name super can not be assigned")
	unknown := "name super is unknown"
	for _, s := range []string{
		"super", "^ super", "[super]", "[^ super]", "nil. super", "super foo; bar", "super + 1; bar", "super foo: 1; bar: 2", "1 + super", "nil at: super", "nil at: 1 put: super", "nil foo; bar: super", "nil foo: super; bar",
		"nil + super; + 1", "nil + 1; + super", "nil foo; bar: super baz: 1", "nil foo; bar: 1 baz: super", "(super) foo; bar", "[:p | p := super]", "[| v | v := super]", "[super foo; bar]", "nil foo: (super bar; baz)",
	} {
		want := unknown
		if strings.Contains(s, ":p") {
			want = "name p can not be assigned"
		}
		checkBody(t, s, want)
	}
	for _, s := range []string{"super + super", "super foo: super", "super foo: 1 bar: super", "super foo: (super foo; bar)", "(super foo: super) bar", "[super foo: super]", "super foo: [super]"} {
		checkSource(t, "class A extends Object method m "+s+" end main", unknown)
		checkSource(t, "class A extends Object classmethod m "+s+" end main", unknown)
		checkSource(t, "class A extends Object end main "+s, outside)
	}
	checkSources(t,
		"main super foo", outside, "main ^ super foo", outside, "main [[super foo]]", outside, "main | a | a := super foo: a", outside, "main super foo a; b", outside, "main nil a; b: super foo", outside,
		"main (super) foo", outside, "class A extends Object method m (super) foo end main", "", "class A extends Object method m super foo a; b. nil a; b: super foo end main", "",
		"main super := 1", "name super can not be assigned", "class A extends Object method m super := super foo end main", "name super can not be assigned", "main #super", "", "main 'super' foo", "", "main nil super", "", "main nil super: 1", "")
}

// choice is a place of a template, with its number, what is wrong there, and
// what is right.
var choice = regexp.MustCompile(`\{(\d+) ([^?}]*)\?([^}]*)\}`)

// filled fills the places of a template, where isWrong says so with what is
// wrong.
func filled(template string, isWrong func(place int) bool) string {
	return choice.ReplaceAllStringFunc(template, func(s string) string {
		parts := choice.FindStringSubmatch(s)
		if place, _ := strconv.Atoi(parts[1]); isWrong(place) {
			return parts[2]
		}
		return parts[3]
	})
}

// checkOrder has a template and the problems of its places in the order in which
// they are found: each problem alone, with each other one, with all behind it,
// and none.
func checkOrder(t *testing.T, template string, problems ...string) {
	t.Helper()
	checkSource(t, filled(template, func(int) bool { return false }), "")
	for i, want := range problems {
		checkSource(t, filled(template, func(place int) bool { return place >= i+1 }), want)
		for j := range problems[i:] {
			checkSource(t, filled(template, func(place int) bool { return place == i+1 || place == i+1+j }), want)
		}
	}
}

// checkOrderOfBody has a template of a body in a method.
func checkOrderOfBody(t *testing.T, body string, problems ...string) {
	t.Helper()
	for _, head := range []string{"class A extends Object fields f method m: x ", "class A extends Object classmethod m: x ", "class A extends Object end class B extends A method n method m: x "} {
		checkOrder(t, head+body+" end main", problems...)
	}
	checkOrder(t, "class A extends Object end main "+body, problems...)
}

// TestCheckOrderOfAll has all steps in one unit.
func TestCheckOrderOfAll(t *testing.T) {
	checkOrder(t, `
		class {1 nil?A} extends {2 Array?Error} fields {3 text?a} {4 self?b} c d
		classmethod * {13 B?n} | {14 nil?o} | {15 p?n}
		method + n {16 e?a} := {17 e?n}
		method {5 +?-} n self
		classmethod {6 *?-} n self
		end
		class {7 Error?B} extends {8 Class?A} fields {9 c?e} f g {10 h?}
		method m | {18 a?v} {19 f?w} | w := {20 q1?v}. self a: {21 super?w} b: [:{22 w?x} | {23 y?x} foo]
		end
		class {11 B?C} extends B
		method k ^ {24 super?self} foo; bar: {25 x?e}
		classmethod {12 m?k} ^ {26 e?nil}
		classmethod m
		end
		main | {27 C?c} | {28 super?c} foo: {29 super?c} bar: [^ {30 e?c}]`,
		"class nil is there already", "class Array can not be extended", "field text is in use", "field self is in use", "method + is there already", "method * is there already",
		"class Error is there already", "class Class can not be extended", "field c is in use", "class B has too many fields", "class B is there already", "method m is there already",
		"name B is in use", "name nil is in use", "name p is unknown", "name e can not be assigned", "name e is unknown",
		"name a is in use", "name f is in use", "name q1 is unknown", "name super is unknown", "name w is in use", "name y is unknown",
		"name super is unknown", "name x is unknown", "name e is unknown",
		"name C is in use", "super stands outside of a class", "name super is unknown", "name e is unknown")
}

func TestCheckOrderOfClasses(t *testing.T) {
	checkOrder(t, "class {1 self?A} extends {2 Nil?Object} end main", "class self is there already", "class Nil can not be extended")
	checkOrder(t, "class A extends {1 B?Object} fields {2 x?y} x end class B extends Object end main", "class B can not be extended", "field x is in use")
	checkOrder(t, "class A extends Object fields {1 nil?a} {2 B?b} {3 b?c} {4 true?d} end class B extends Object end main", "field nil is in use", "field B is in use", "field b is in use", "field true is in use")
	checkOrder(t, "class A extends Object fields {1 B?x} {2 x?w} y {3 y?z} end class B extends Object end main", "field B is in use", "field x is in use", "field y is in use")
	checkOrder(t, "class A extends Error fields a b c d end class B extends A fields e f {1 a?g} {2 h?} end main", "field a is in use", "class B has too many fields")
	checkOrder(t, "class A extends Error fields a b c d end class B extends A fields e f g {1 h?} method m method {2 m?n} end main", "class B has too many fields", "method m is there already")
	checkOrder(t, "class A extends Object method a method b method {1 b?c} method {2 a?d} end main", "method b is there already", "method a is there already")
	checkOrder(t, "class A extends Object method a classmethod b classmethod {1 b?c} method {2 a?d} end main", "method b is there already", "method a is there already")
	checkOrder(t, "class A extends Object method a method {1 a?b} end class {2 A?B} extends Object end main", "method a is there already", "class A is there already")
	checkOrder(t, "class {1 nil?A} extends Object end class {2 true?B} extends Object end main", "class nil is there already", "class true is there already")
	checkOrder(t, "class A extends {1 Q?Object} end class {2 A?B} extends Object end main", "class Q can not be extended", "class A is there already")
	checkOrder(t, "class A extends Object fields {1 nil?a} end class B extends {2 Q?A} end main", "field nil is in use", "class Q can not be extended")
	checkOrder(t, "class A extends {1 B?Object} end class B extends {2 C?A} end class C extends Object end main", "class B can not be extended", "class C can not be extended")
}

func TestCheckOrderOfMethods(t *testing.T) {
	checkOrder(t, "class A extends Object method a {3 q?nil} end class B extends Object fields {1 x?y} x method b method {2 b?c} end main", "field x is in use", "method b is there already", "name q is unknown")
	checkOrder(t, "class A extends Object end class {1 A?B} extends Object end main {2 q?nil}", "class A is there already", "name q is unknown")
	checkOrder(t, "class A extends Object method a method {1 a?b} ^ {2 q?nil} end main ^ {3 r?nil}", "method a is there already", "name q is unknown", "name r is unknown")
	checkOrder(t, "class A extends Object method a {1 q?nil} method b {2 r?nil} classmethod a {3 s?nil} method c {4 t?nil} end main", "name q is unknown", "name r is unknown", "name s is unknown", "name t is unknown")
	checkOrder(t, "class A extends Object classmethod a {1 q?nil} method b {2 r?nil} end class B extends A method a {3 s?nil} classmethod b {4 t?nil} end main {5 u?nil}",
		"name q is unknown", "name r is unknown", "name s is unknown", "name t is unknown", "name u is unknown")
	checkOrder(t, "class A extends Object method a {1 q := 1?} end class B extends A end class C extends A method m: {2 self?p} | {3 A?v} | end main | {4 nil?x} | {5 super?self} foo",
		"name q can not be assigned", "name self is in use", "name A is in use", "name nil is in use", "super stands outside of a class")
}

func TestCheckOrderOfNodes(t *testing.T) {
	q, r, s, u := "name q is unknown", "name r is unknown", "name s is unknown", "name u is unknown"
	notQ, notR, used := "name q can not be assigned", "name r can not be assigned", "name self is in use"
	checkOrderOfBody(t, "[:{1 self?p1} :{2 A?p2} | | {3 nil?p3} {4 Array?p4} | {5 q?p1}. {6 r?p4}]", used, "name A is in use", "name nil is in use", "name Array is in use", q, r)
	checkOrderOfBody(t, "{1 q?nil}. {2 r?nil}. ^ {3 s?nil}", q, r, s)
	checkOrderOfBody(t, "{1 q?nil} foo: {2 r?nil} bar: {3 s?nil}", q, r, s)
	checkOrderOfBody(t, "{1 q?nil} + {2 r?nil} - {3 s?nil}", q, r, s)
	checkOrderOfBody(t, "{1 q?nil} foo: {2 r?nil}; bar: {3 s?nil} baz: {4 u?nil}", q, r, s, u)
	checkOrderOfBody(t, "nil foo: {1 q?nil} bar: {2 r?nil}; foo; + {3 s?nil}", q, r, s)
	checkOrderOfBody(t, "{1 super?nil} foo: {2 q?nil}; bar: {3 super?nil}; baz: {4 r?nil}", "name super is unknown", q, "name super is unknown", r)
	checkOrderOfBody(t, "[[[{1 q?nil}]]] foo: {2 r?nil}. {3 s?nil}", q, r, s)
	checkOrderOfBody(t, "nil foo: (nil bar: [[{1 q?nil}]]) bar: {2 r?nil}", q, r)
	checkOrderOfBody(t, "| v | v := [:{1 self?w} | {2 q?w}] foo: {3 r?nil}. {4 s?v}", used, q, r, s)
	checkOrderOfBody(t, "[| v | {1 q?v} := {2 r?v}. {3 s?v} := v]", notQ, r, "name s can not be assigned")
	checkOrderOfBody(t, "[| v | {1 q?v} := {2 r?v} := {3 s?v}]", notQ, notR, s)
	checkOrderOfBody(t, "[:{1 self?w} | [:{2 self?z} | {3 q?z}]. {4 r?w}] foo: [| {5 self?w} | {6 s?w}]", used, used, q, r, used, s)
	checkOrderOfBody(t, "[{1 q?nil}. [:{2 self?w} | ]. {3 r?nil}] foo; bar: [^ {4 s?nil}]", q, used, r, s)
	for _, head := range []string{"class A extends Object method m ", "class A extends Error classmethod m "} {
		checkOrder(t, head+"super foo: {1 q?nil} bar: {2 super?nil} baz: {3 r?nil} end main", q, "name super is unknown", r)
		checkOrder(t, head+"{1 q?nil}. super foo: (super bar: {2 r?nil}). {3 s?nil} end main", q, r, s)
	}
	outside := "super stands outside of a class"
	checkOrder(t, "main {1 super?nil} foo: {2 q?nil} bar: {3 super?nil}", outside, q, "name super is unknown")
	checkOrder(t, "main {1 q?nil}. {2 super?nil} foo: ({3 super?nil} foo: {4 r?nil})", q, outside, outside, r)
	checkOrder(t, "main (nil foo: {1 q?nil}) bar: ({2 super?nil} foo)", q, outside)
	checkOrder(t, "main ({1 super?nil} foo: {2 q?nil}) bar: {3 r?nil}", outside, q, r)
	checkOrder(t, "main [:{1 self?w} | {2 super?w} foo]. {3 super?nil} foo", used, outside, outside)
}

// rules finds the problems of a unit as the document says, in its order.
type rules struct {
	u     impl.Unit
	found []string
}

// firstProblem returns the first problem of a unit by the rules.
func firstProblem(u impl.Unit) string {
	return append((&rules{u: u}).all(), "")[0]
}

func (r *rules) say(isSo bool, problem string) {
	if isSo {
		r.found = append(r.found, problem)
	}
}

func (r *rules) isClass(s string) bool {
	return slices.Contains(builtinList, s) || slices.ContainsFunc(r.u.Classes, func(c impl.ClassDef) bool { return c.Name == s })
}

// indexOf returns the index of the class with this name among the first n, or -1.
func (r *rules) indexOf(s string, n int) int {
	return slices.IndexFunc(r.u.Classes[:n], func(c impl.ClassDef) bool { return c.Name == s })
}

// inherited returns the fields of the parent of a class.
func (r *rules) inherited(at int) []string {
	parent := r.indexOf(r.u.Classes[at].Parent, at)
	if parent >= 0 {
		return slices.Concat(r.inherited(parent), r.u.Classes[parent].Fields)
	}
	if slices.Contains(extendable[1:], r.u.Classes[at].Parent) {
		return []string{"text"}
	}
	return nil
}

func (r *rules) all() []string {
	for i, c := range r.u.Classes {
		r.say(slices.Contains(builtinList, c.Name) || slices.Contains(reservedList, c.Name) || r.indexOf(c.Name, i) >= 0, "class "+c.Name+" is there already")
		r.say(!slices.Contains(extendable, c.Parent) && r.indexOf(c.Parent, i) < 0, "class "+c.Parent+" can not be extended")
		for j, f := range c.Fields {
			isUsed := slices.Contains(r.inherited(i), f) || slices.Contains(c.Fields[:j], f) || slices.Contains(reservedList, f) || r.isClass(f)
			r.say(isUsed, "field "+f+" is in use")
		}
		r.say(len(r.inherited(i))+len(c.Fields) > 8, "class "+c.Name+" has too many fields")
		for j, m := range c.Methods {
			isTwice := slices.ContainsFunc(c.Methods[:j], func(o impl.Method) bool { return o.Selector == m.Selector && o.Class == m.Class })
			r.say(isTwice, "method "+m.Selector+" is there already")
		}
	}
	for i, c := range r.u.Classes {
		for _, m := range c.Methods {
			var fields []string
			if !m.Class {
				fields = slices.Concat(r.inherited(i), c.Fields)
			}
			r.node(blockExpr(m), nil, fields, false)
		}
	}
	r.node(blockExpr(r.u.Main), nil, nil, true)
	return r.found
}

// roleOf returns "parameter" or "variable" if a name is declared by one of the
// blocks, otherwise "".
func roleOf(s string, blocks exprs) string {
	for _, b := range blocks {
		if at := slices.Index(b.Names, s); at >= 0 && at < b.Number {
			return "parameter"
		} else if at >= 0 {
			return "variable"
		}
	}
	return ""
}

// node finds the problems of an expression inside of some blocks.
func (r *rules) node(e impl.Expr, blocks exprs, fields []string, isMain bool) {
	isField := func(s string) bool { return slices.Contains(fields, s) }
	kids := e.Kids
	switch e.Kind {
	case impl.ExprName:
		isKnown := roleOf(e.Text, blocks) != "" || isField(e.Text) || r.isClass(e.Text) || slices.Contains(reservedList, e.Text) && e.Text != "super"
		r.say(!isKnown, "name "+e.Text+" is unknown")
	case impl.ExprAssign:
		r.say(roleOf(e.Text, blocks) != "variable" && !isField(e.Text), "name "+e.Text+" can not be assigned")
	case impl.ExprBlock:
		for i, s := range e.Names {
			isUsed := roleOf(s, blocks) != "" || slices.Contains(e.Names[:i], s) || isField(s) || r.isClass(s) || slices.Contains(reservedList, s)
			r.say(isUsed, "name "+s+" is in use")
		}
		blocks = append(slices.Clone(blocks), e)
	case impl.ExprSend:
		if e.Kids[0].Kind == impl.ExprName && e.Kids[0].Text == "super" {
			r.say(isMain, "super stands outside of a class")
			kids = kids[1:]
		}
	case impl.ExprCascade:
		kids = kids[:1:1]
		for _, message := range e.Kids[1:] {
			kids = append(kids, message.Kids...)
		}
	}
	for _, kid := range kids {
		r.node(kid, blocks, fields, isMain)
	}
}

// sampleChecked is a unit without problems that has what a unit can have.
func sampleChecked(t *testing.T) impl.Unit {
	u, ok := impl.ParseUnit(`
		class A extends Error fields a b
		classmethod new: p ^ super new a: p; yourself
		method a: p | v | v := p foo: a. a := v. [:w | | v2 | w value: v2. [:w2 | v2 := w2 foo: w bar: text]]. ^ a
		method a ^ self
		end
		class B extends A fields c
		method m: p1 n: p2 super m: p1 n: p2. ^ [:w | super foo: [:w2 | c := w2. ^ w]]
		classmethod m | v | v := nil. 1 to: 3 do: [:w | v := w. [| w2 | w2 := v]]. ^ B
		end
		class C extends Object fields a
		method + p ^ a + p; - C; * A
		method - p | v v2 | v := v2 := p. ^ true
		end
		main | x y | x := [:p | y := p. [:q | | z | z := q. ^ [p foo: z]]]. x foo: A bar: C. ^ x a; b: false`)
	if !ok {
		t.Fatal("the sample is no unit")
	}
	return u
}

// namesOf returns all places of a unit where a name stands.
func namesOf(u *impl.Unit) []*string {
	var places []*string
	add := func(list []string) {
		for i := range list {
			places = append(places, &list[i])
		}
	}
	for i := range u.Classes {
		places = append(places, &u.Classes[i].Name, &u.Classes[i].Parent)
		add(u.Classes[i].Fields)
	}
	for _, m := range methodsOf(u) {
		add(m.Params)
		add(m.Temps)
		for _, e := range nodesOf(&impl.Expr{Kids: m.Body}) {
			if e.Kind == impl.ExprName || e.Kind == impl.ExprAssign {
				places = append(places, &e.Text)
			}
			add(e.Names)
		}
	}
	return places
}

// TestCheckChangedUnits puts names at all places of a sample, and pairs of names
// at pairs of places, and finds the first problem by the rules as well.
func TestCheckChangedUnits(t *testing.T) {
	sample := sampleChecked(t)
	checkProblem(t, sample, "")
	list := strings.Fields("A B C Object ZeroDivide Array Class self super nil true a b c p q v v2 w w2 x y z p1 text unknown")
	counts := map[string]int{}
	check := func(u impl.Unit) {
		want := firstProblem(u)
		checkProblem(t, u, want)
		words := strings.Fields(want + " none none none none")
		counts[words[0]+" .. "+strings.Join(words[2:4], " ")]++
	}
	for at := range namesOf(&sample) {
		for _, s := range list {
			u := copyOfUnit(sample)
			*namesOf(&u)[at] = s
			check(u)
		}
	}
	m := maker{rand.New(rand.NewSource(7))}
	for range 30000 {
		u := copyOfUnit(sample)
		for range 2 + m.Intn(3) {
			places := namesOf(&u)
			*places[m.Intn(len(places))] = m.pick(list...)
		}
		methods := methodsOf(&u)
		switch m.Intn(5) {
		case 0:
			methods[1+m.Intn(len(methods)-1)].Class = m.Intn(2) == 0
		case 1:
			one, two := &u.Classes[m.Intn(3)], &u.Classes[m.Intn(3)]
			*one, *two = *two, *one
		case 2:
			*methods[1+m.Intn(len(methods)-1)] = *methods[1+m.Intn(len(methods)-1)]
		case 3:
			u = unit(mainOf("p", methods[1+m.Intn(len(methods)-1)].Body...), u.Classes...)
		}
		check(u)
	}
	for _, kind := range []string{"none .. none none", "class .. is there", "class .. can not", "field .. is in", "method .. is there", "name .. is in", "name .. is unknown", "name .. can not", "super .. outside of"} {
		if counts[kind] < 100 {
			t.Errorf("only %d problems of the kind %q in %v", counts[kind], kind, counts)
		}
	}
}

// TestCheckMadeUnits has made bodies in which names are declared and used at
// random.
func TestCheckMadeUnits(t *testing.T) {
	m := maker{rand.New(rand.NewSource(8))}
	counts := map[string]int{}
	for range 30000 {
		e := m.block(1 + m.Intn(4))
		for _, node := range nodesOf(&e) {
			for i := range node.Names {
				node.Names[i] = m.pick("k", "l", "n", "o", "q", "r", "s") + strconv.Itoa(m.Intn(3))
			}
			if node.Kind == impl.ExprName && m.Intn(3) == 0 {
				node.Text = m.pick("x", "y", "k1", "l1", "super", "super", "super", "A")
			}
		}
		e.Number = 0
		body := impl.Method{Selector: "m", Class: m.Intn(2) == 0, Temps: append(strings.Fields(m.pick("x y", "y", "")), e.Names...), Body: e.Kids}
		main := body
		main.Selector, main.Class = "main", false
		fields := m.pick("", "x", "y", "x y", "k0 y")
		for _, u := range []impl.Unit{unit(main), unit(mainOf(""), class("A", "Object", fields, body)), unit(main, class("A", "Error", fields), class("B", "A", "", body))} {
			if !impl.IsUnit(u) {
				checkNoProblem(t, u)
				continue
			}
			want := firstProblem(u)
			checkProblem(t, u, want)
			words := strings.Fields(want + " none none none none")
			counts[strings.Join(words[2:4], " ")]++
		}
	}
	for _, kind := range []string{"none none", "is in", "is unknown", "can not", "outside of"} {
		if counts[kind] < 250 {
			t.Errorf("only %d problems of the kind %q in %v", counts[kind], kind, counts)
		}
	}
}

// TestCheckLargeUnits has units as large as they may be.
func TestCheckLargeUnits(t *testing.T) {
	list := make([]string, 200000)
	for i := range list {
		list[i] = "n" + strconv.Itoa(i)
	}
	names := strings.Join(list, " ")
	deepest := name("n7")
	for i := range 20 {
		deepest = block(i%2, "b"+strconv.Itoa(i), deepest)
	}
	checkProblem(t, unit(mainOf(names, deepest)), "")
	checkProblem(t, unit(mainOf(names, block(0, "n199999", deepest))), "name n199999 is in use")
	checkProblem(t, unit(mainOf("", block(0, names), block(200000, names), deepest)), "name n7 is unknown")
	full := block(0, "")
	for i := range 299 {
		full.Kids = append(full.Kids, block(i%2, "x y"))
	}
	full.Kids[298] = name("x")
	checkProblem(t, unit(mainOf("x", full.Kids[298:]...)), "")
	checkProblem(t, unit(mainOf("", full.Kids...)), "name x is unknown")
	var classes []impl.ClassDef
	for i := range 8 {
		one := class("C"+strconv.Itoa(i), "Object", "a b c d")
		for j := range 12 {
			one.Methods = append(one.Methods, method("m"+strconv.Itoa(j), "", "", slices.Repeat(exprs{assign("a", name("d"))}, 149)...))
		}
		classes = append(classes, one)
	}
	checkProblem(t, unit(mainOf(""), classes...), "")
	checkProblem(t, unit(mainOf("", name("a")), classes...), "name a is unknown")
	classes[7].Methods[11].Body[148] = assign("a", name("e"))
	checkProblem(t, unit(mainOf("", name("a")), classes...), "name e is unknown")
	for levels := range 12 {
		shared := doubled(levels+1, send("foo", name("super")))
		u := unit(mainOf(""), class("A", "Object", "", method("m", "", "", shared)))
		if !impl.IsUnit(u) {
			checkNoProblem(t, u)
			continue
		}
		checkProblem(t, u, "")
		checkProblem(t, unit(mainOf("", shared)), "super stands outside of a class")
	}
}

func TestCheckedUnitsAreNotModified(t *testing.T) {
	broken := sampleChecked(t)
	broken.Classes[1].Methods[0].Body = append(broken.Classes[1].Methods[0].Body, send("foo", name("q")))
	chain := []impl.ClassDef{class("A", "Error", "a b"), class("B", "A", "c"), class("C", "B", "d", method("m", "x", "y", name("q"))), class("D", "A", "e f")}
	for _, u := range []impl.Unit{sampleChecked(t), broken, sampleUnit(), {}, unit(mainOf("a b"), chain...), unit(mainOf("a a"), chain[:2]...), unit(method("b", "x y", "end"), classList(20)...), withMethod(method("a:b:", "x y", "z", deep(30), wide(400)))} {
		u = roomyUnit(u)
		before := wholeOfUnit(u)
		problem, ok := impl.CheckUnit(u)
		again, fine := impl.CheckUnit(u)
		if !reflect.DeepEqual(wholeOfUnit(u), before) || problem != again || ok != fine || ok != impl.IsUnit(u) {
			t.Errorf("%s is modified: %q, %v and %q, %v", brief(before), problem, ok, again, fine)
		}
	}
}
