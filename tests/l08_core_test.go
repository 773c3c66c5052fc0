package tests

import (
	"math"
	"math/rand"
	"reflect"
	"slices"
	"strconv"
	"strings"
	"testing"

	"loop.example/g03108/impl"
)

type cores = []impl.Core

// coreForm is how a kind of node is written: (word fields kids), where the
// fields are t for the Text, n for the Number and d for the Depth.
type coreForm struct {
	word, fields string
}

// coreForms has the form of each kind of node.
var coreForms = []coreForm{
	{}, {"int", "n"}, {"text", "t"}, {"symbol", "t"}, {"nil", ""}, {"true", ""}, {"false", ""}, {"self", ""}, {"var", "dn"}, {"setvar", "dn"}, {"field", "t"}, {"setfield", "t"},
	{"class", "n"}, {"send", "t"}, {"super", "nt"}, {"cascade", ""}, {"block", "nd"}, {"seq", ""}, {"return", ""}, {"if", ""}, {"while", "n"}, {"count", "n"},
}

// coreList reads nodes. An integer, a 'text', a #symbol, and a node that has a
// word alone may stand without parentheses.
func coreList(s string) cores {
	tokens := strings.Fields(strings.NewReplacer("(", " ( ", ")", " ) ").Replace(s))
	list, rest := readCores(tokens)
	if len(rest) > 0 {
		panic(s + " has too many parentheses")
	}
	return list
}

// core reads one node.
func core(s string) impl.Core {
	list := coreList(s)
	if len(list) != 1 {
		panic(s + " is not one node")
	}
	return list[0]
}

// readCores reads nodes up to a closing parenthesis or the end.
func readCores(tokens []string) (cores, []string) {
	var list cores
	for len(tokens) > 0 && tokens[0] != ")" {
		if tokens[0] != "(" {
			list = append(list, readCore(tokens[0]))
			tokens = tokens[1:]
			continue
		}
		c := readCore(tokens[1])
		tokens = tokens[2:]
		for _, field := range coreForms[c.Kind].fields {
			number, err := strconv.Atoi(tokens[0])
			if field != 't' && err != nil {
				panic(tokens[0] + " is no number")
			}
			switch field {
			case 't':
				c.Text = tokens[0]
			case 'n':
				c.Number = number
			case 'd':
				c.Depth = number
			}
			tokens = tokens[1:]
		}
		c.Kids, tokens = readCores(tokens)
		list, tokens = append(list, c), tokens[1:]
	}
	return list, tokens
}

// readCore reads a node that is written without parentheses, or a word.
func readCore(s string) impl.Core {
	if n, err := strconv.Atoi(s); err == nil {
		return impl.Core{Kind: impl.CoreInt, Number: n}
	}
	if text, ok := strings.CutPrefix(s, "'"); ok {
		return impl.Core{Kind: impl.CoreText, Text: strings.TrimSuffix(text, "'")}
	}
	if text, ok := strings.CutPrefix(s, "#"); ok {
		return impl.Core{Kind: impl.CoreSymbol, Text: text}
	}
	kind := slices.IndexFunc(coreForms, func(f coreForm) bool { return f.word == s })
	if kind < 1 {
		panic(s + " is no word")
	}
	return impl.Core{Kind: kind}
}

// shown writes a node, with all fields that are not zero.
func shown(c impl.Core) string {
	form := coreForm{word: "kind" + strconv.Itoa(c.Kind)}
	if c.Kind > 0 && c.Kind < len(coreForms) {
		form = coreForms[c.Kind]
	}
	parts := []string{form.word}
	values := map[rune]string{'t': c.Text, 'n': strconv.Itoa(c.Number), 'd': strconv.Itoa(c.Depth)}
	for _, field := range form.fields {
		parts = append(parts, values[field])
	}
	for _, field := range "tnd" {
		if !strings.ContainsRune(form.fields, field) && values[field] != "" && values[field] != "0" {
			parts = append(parts, string(field)+"="+values[field])
		}
	}
	for _, kid := range c.Kids {
		parts = append(parts, shown(kid))
	}
	return "(" + strings.Join(parts, " ") + ")"
}

func shownList(list cores) string {
	var parts []string
	for _, c := range list {
		parts = append(parts, shown(c))
	}
	return strings.Join(parts, " ")
}

// coreNodesOf returns the nodes of a tree.
func coreNodesOf(c *impl.Core) []*impl.Core {
	list := []*impl.Core{c}
	for i := range c.Kids {
		list = append(list, coreNodesOf(&c.Kids[i])...)
	}
	return list
}

func copyOfCore(c impl.Core) impl.Core {
	c.Kids = slices.Clone(c.Kids)
	for i := range c.Kids {
		c.Kids[i] = copyOfCore(c.Kids[i])
	}
	return c
}

// routinesOf returns all routines of a system, the main one included.
func routinesOf(s *impl.System) []*impl.Routine {
	list := []*impl.Routine{&s.Main}
	for i := range s.Routines {
		list = append(list, &s.Routines[i])
	}
	return list
}

func copyOfSystem(s impl.System) impl.System {
	s.Classes, s.Routines = slices.Clone(s.Classes), slices.Clone(s.Routines)
	for i := range s.Classes {
		s.Classes[i].Fields = slices.Clone(s.Classes[i].Fields)
	}
	for _, r := range routinesOf(&s) {
		r.Body = copyOfCore(r.Body)
	}
	return s
}

// plainSystem makes empty lists nil, so that reflection finds equal systems.
func plainSystem(s impl.System) impl.System {
	s = copyOfSystem(s)
	s.Classes, s.Routines = nilOf(s.Classes), nilOf(s.Routines)
	for i := range s.Classes {
		s.Classes[i].Fields = nilOf(s.Classes[i].Fields)
	}
	for _, r := range routinesOf(&s) {
		for _, c := range coreNodesOf(&r.Body) {
			c.Kids = nilOf(c.Kids)
		}
	}
	return s
}

// checkLowered lowers a unit that has a system, which must be one by IsSystem
// and by the words of the document.
func checkLowered(t *testing.T, u impl.Unit) impl.System {
	t.Helper()
	s, ok := impl.LowerUnit(u)
	if !ok {
		t.Fatalf("LowerUnit(%s) fails", brief(impl.FormatUnit(u)))
	}
	if !impl.IsSystem(s) || !isSystemByWords(s) {
		t.Errorf("LowerUnit(%s) = %s, which is no system", brief(impl.FormatUnit(u)), brief(s))
	}
	return s
}

// checkNotLowered has units that have no system.
func checkNotLowered(t *testing.T, list ...impl.Unit) {
	t.Helper()
	for _, u := range list {
		if s, ok := impl.LowerUnit(u); ok || !reflect.DeepEqual(plainSystem(s), impl.System{}) {
			t.Errorf("LowerUnit(%s) = %s, %v", brief(u), brief(s), ok)
		}
	}
}

// parsed parses a source that is a unit.
func parsed(t *testing.T, source string) impl.Unit {
	t.Helper()
	u, ok := impl.ParseUnit(source)
	if !ok {
		t.Fatalf("%q is no unit", source)
	}
	return u
}

// lowered lowers a source that has a system.
func lowered(t *testing.T, source string) impl.System {
	t.Helper()
	return checkLowered(t, parsed(t, source))
}

// sequenceOf is the body of these statements.
func sequenceOf(list cores) impl.Core {
	switch len(list) {
	case 0:
		return core("nil")
	case 1:
		return list[0]
	}
	return impl.Core{Kind: impl.CoreSeq, Kids: list}
}

// checkRoutine compares the slots and the body of a routine.
func checkRoutine(t *testing.T, source string, r impl.Routine, slots int, want cores) {
	t.Helper()
	if shown(r.Body) != shown(sequenceOf(want)) || r.Slots != slots {
		t.Errorf("%q: the routine %s has %d slots and the body\n%s, want %d and\n%s", source, r.Selector, r.Slots, shown(r.Body), slots, shown(sequenceOf(want)))
	}
}

// checkNodes compares the slots and the statements of a body in Main, in
// methods and in blocks.
func checkNodes(t *testing.T, body string, slots int, want string) {
	t.Helper()
	classes := "class A extends Object end class B extends A fields fx "
	list := coreList(want)
	inMethod := append(coreList(want), core("self"))
	if len(list) > 0 && list[len(list)-1].Kind == impl.CoreReturn {
		inMethod = coreList(want)
	}
	source := classes + "end main " + body
	checkRoutine(t, source, lowered(t, source).Main, slots, list)
	for _, kind := range []string{"method", "classmethod"} {
		source = classes + kind + " m " + body + " end main"
		checkRoutine(t, source, lowered(t, source).Routines[0], slots, inMethod)
	}
	inBlock := impl.Core{Kind: impl.CoreBlock, Depth: slots, Kids: cores{sequenceOf(list)}}
	source = classes + "end main [" + body + "]"
	checkRoutine(t, source, lowered(t, source).Main, 0, cores{inBlock})
	source = classes + "method m: z1 [" + body + "] end main"
	checkRoutine(t, source, lowered(t, source).Routines[0], 1, cores{inBlock, core("self")})
	source = classes + "end main nil foo: [" + body + "] bar: 3"
	checkRoutine(t, source, lowered(t, source).Main, 0, cores{{Kind: impl.CoreSend, Text: "foo:bar:", Kids: cores{core("nil"), inBlock, core("3")}}})
	if !strings.HasPrefix(body, "|") {
		choice := cores{{Kind: impl.CoreIf, Kids: cores{core("nil"), sequenceOf(list), core("nil")}}}
		source = classes + "end main nil ifTrue: [" + body + "]"
		checkRoutine(t, source, lowered(t, source).Main, slots, choice)
	}
}

// checkNodesOf has bodies without variables of their own and their nodes by
// turns.
func checkNodesOf(t *testing.T, lines ...string) {
	t.Helper()
	for i := 0; i < len(lines); i += 2 {
		checkNodes(t, lines[i], 0, lines[i+1])
	}
}

// checkInClass compares the body of the last method of a class B, which has the
// parameters p and q and extends A.
func checkInClass(t *testing.T, classes, kind, body string, slots int, want string) {
	t.Helper()
	source := classes + " method n ^ nil " + kind + " at: p put: q " + body + " end main"
	s := lowered(t, source)
	r := s.Routines[len(s.Routines)-1]
	checkRoutine(t, source, r, slots, coreList(want))
	if r.Params != 2 || r.Selector != "at:put:" {
		t.Errorf("%q: the routine is %s with %d parameters", source, r.Selector, r.Params)
	}
}

// classText writes a class as it stands in a system.
func classText(c impl.ClassInfo) string {
	return c.Name + " " + strconv.Itoa(c.Parent) + " " + strings.Join(c.Fields, " ")
}

// checkClasses compares the classes behind the built-in ones.
func checkClasses(t *testing.T, source string, want ...string) {
	t.Helper()
	builtin := strings.Split("Object -1 /Exception 0 text/Error 1 text/MessageNotUnderstood 2 text/ZeroDivide 2 text/Integer 0 /Boolean 0 /Nil 0 /String 0 /Symbol 0 /Array 0 /Block 0 /Semaphore 0 /Process 0 /Transcript 0 /Class 0 ", "/")
	var got []string
	for _, c := range lowered(t, source).Classes {
		got = append(got, classText(c))
	}
	if all := slices.Concat(builtin, want); !slices.Equal(got, all) {
		t.Errorf("the classes of %q are\n%q, want\n%q", source, got, all)
	}
}

func TestLowerClasses(t *testing.T) {
	checkClasses(t, "main")
	checkClasses(t, "main | a | ^ a")
	checkClasses(t, "class A extends Object end main", "A 0 ")
	checkClasses(t, "class A extends Object fields x y method x ^ x end main", "A 0 x y")
	checkClasses(t, "class A extends Exception fields x end class B extends Error end class C extends MessageNotUnderstood fields y z end class D extends ZeroDivide fields a b c d end main",
		"A 1 text x", "B 2 text", "C 3 text y z", "D 4 text a b c d")
	checkClasses(t, "class A extends Object fields x end class B extends A fields y end class C extends B end class D extends A fields z end class E extends C fields a b end main",
		"A 0 x", "B 16 x y", "C 17 x y", "D 16 x z", "E 18 x y a b")
	checkClasses(t, "class B extends Error end class A extends B fields f e d c end class C extends A fields b a z end class D extends Object fields text end class E extends B end class F extends E end class G extends C end class H extends F end main",
		"B 2 text", "A 16 text f e d c", "C 17 text f e d c b a z", "D 0 text", "E 16 text", "F 20 text", "G 18 text f e d c b a z", "H 21 text")
}

// routineText writes a routine but for its body.
func routineText(r impl.Routine) string {
	side := "object"
	if r.Class {
		side = "class"
	}
	return strings.Join([]string{r.Selector, strconv.Itoa(r.Owner), side, strconv.Itoa(r.Params), strconv.Itoa(r.Slots)}, " ")
}

// checkRoutines compares the routines but for their bodies, the main one at last.
func checkRoutines(t *testing.T, source string, want ...string) {
	t.Helper()
	s := lowered(t, source)
	var got []string
	for _, r := range append(s.Routines, s.Main) {
		got = append(got, routineText(r))
	}
	if !slices.Equal(got, want) {
		t.Errorf("the routines of %q are\n%q, want\n%q", source, got, want)
	}
}

func TestLowerRoutines(t *testing.T) {
	checkRoutines(t, "main", "main -1 object 0 0")
	checkRoutines(t, "main | a b c | ^ a", "main -1 object 0 3")
	checkRoutines(t, "class A extends Object end main", "main -1 object 0 0")
	checkRoutines(t, "class A extends Object method m end main", "m 16 object 0 0", "main -1 object 0 0")
	checkRoutines(t, "class A extends Object classmethod m: x | y z | end main | a |", "m: 16 class 1 3", "main -1 object 0 1")
	checkRoutines(t, `
		class C extends Object method z classmethod a: p b: q c: r d: s | t | end
		class B extends C end
		class A extends C method + n | a b c | method a classmethod + n method - n ^ [:x :y | | z | z] classmethod z end
		main | a b |`,
		"z 16 object 0 0", "a:b:c:d: 16 class 4 5", "+ 18 object 1 4", "a 18 object 0 0", "+ 18 class 1 1", "- 18 object 1 1", "z 18 class 0 0", "main -1 object 0 2")
	var classes []impl.ClassDef
	var want []string
	for i := range 8 {
		one := class("C"+strconv.Itoa(7-i), "Object", "")
		for j := range 12 {
			selector := []string{"a", "a:", "a:b:", "a:b:c:", "a:b:c:d:", "+"}[j/2]
			m := method(selector, []string{"", "p", "p q", "p q r", "p q r s", "p"}[j/2], strings.Repeat("t", i+1))
			m.Class = j%2 == i%2
			side := map[bool]string{true: "class", false: "object"}[m.Class]
			one.Methods = append(one.Methods, m)
			args := impl.CountArgs(selector)
			want = append(want, selector+" "+strconv.Itoa(16+i)+" "+side+" "+strconv.Itoa(args)+" "+strconv.Itoa(args+1))
		}
		classes = append(classes, one)
	}
	checkRoutines(t, impl.FormatUnit(unit(mainOf("a b c d"), classes...)), append(want, "main -1 object 0 4")...)
}

func TestLowerBodies(t *testing.T) {
	for body, want := range map[string][]string{
		"":                 {"nil", "self", "(block 0 0 nil)"},
		"3":                {"3", "(seq 3 self)", "(block 0 0 3)"},
		"self":             {"self", "(seq self self)", "(block 0 0 self)"},
		"^ 3":              {"(return 3)", "(return 3)", "(block 0 0 (return 3))"},
		"3. 4":             {"(seq 3 4)", "(seq 3 4 self)", "(block 0 0 (seq 3 4))"},
		"3. ^ 4":           {"(seq 3 (return 4))", "(seq 3 (return 4))", "(block 0 0 (seq 3 (return 4)))"},
		"3. 4. 5. 6":       {"(seq 3 4 5 6)", "(seq 3 4 5 6 self)", "(block 0 0 (seq 3 4 5 6))"},
		"3. 4. 5. ^ self":  {"(seq 3 4 5 (return self))", "(seq 3 4 5 (return self))", "(block 0 0 (seq 3 4 5 (return self)))"},
		"[^ 3]":            {"(block 0 0 (return 3))", "(seq (block 0 0 (return 3)) self)", "(block 0 0 (block 0 0 (return 3)))"},
		"nil ifTrue: [^3]": {"(if nil (return 3) nil)", "(seq (if nil (return 3) nil) self)", "(block 0 0 (if nil (return 3) nil))"},
		"[3. 4]. [5. 6]":   {"(seq (block 0 0 (seq 3 4)) (block 0 0 (seq 5 6)))", "(seq (block 0 0 (seq 3 4)) (block 0 0 (seq 5 6)) self)", "(block 0 0 (seq (block 0 0 (seq 3 4)) (block 0 0 (seq 5 6))))"},
	} {
		s := lowered(t, "class A extends Object method m "+body+" classmethod m "+body+" method n ["+body+"] end main "+body)
		inBlock := "(seq " + want[2] + " self)"
		for i, r := range append(s.Routines, s.Main) {
			if got, text := shown(r.Body), []string{want[1], want[1], inBlock, want[0]}[i]; got != shown(core(text)) {
				t.Errorf("the body of routine %d for %q is %s, want %s", i, body, got, text)
			}
		}
	}
}

func TestLowerLeaves(t *testing.T) {
	checkNodesOf(t,
		"", "", "0", "0", "7", "7", "999999999", "999999999", "''", "''", "'a'", "'a'", "'nil'", "'nil'", "#nil", "#nil", "#at:put:", "#at:put:", "#+", "#+", "#class:", "#class:",
		"nil", "nil", "true", "true", "false", "false", "self", "self", "nil. true. false. self", "nil true false self",
		"A", "(class 16)", "B", "(class 17)", "A. B. A. Object", "(class 16) (class 17) (class 16) (class 0)", "^ A", "(return (class 16))", "^ nil", "(return nil)", "^ self", "(return self)")
	for i, s := range builtinList {
		class := "(class " + strconv.Itoa(i) + ")"
		checkNodesOf(t, s, class, "^ "+s, "(return "+class+")", s+" new: "+s, "(send new: "+class+" "+class+")", "["+s+"]", "(block 0 0 "+class+")")
	}
	s := lowered(t, "main 'it''s (a) text'. #a:b:c:d:. '"+strings.Repeat("''", 40)+"'")
	want := cores{{Kind: impl.CoreText, Text: "it's (a) text"}, core("#a:b:c:d:"), {Kind: impl.CoreText, Text: strings.Repeat("'", 40)}}
	checkRoutine(t, "texts", s.Main, 0, want)
	source := "class a extends Object method m ^ b classmethod m ^ b a: a end class b extends a method m ^ a end main ^ a b: b"
	s = lowered(t, source)
	for i, want := range []string{"(return (class 17))", "(return (send a: (class 17) (class 16)))", "(return (class 16))", "(return (send b: (class 16) (class 17)))"} {
		r := append(s.Routines, s.Main)[i]
		checkRoutine(t, source, r, 0, coreList(want))
	}
}

func TestLowerVariables(t *testing.T) {
	checkNodes(t, "| a | a", 1, "(var 0 0)")
	checkNodes(t, "| a b c | c. b. a", 3, "(var 0 2) (var 0 1) (var 0 0)")
	checkNodes(t, "| a b | ^ b", 2, "(return (var 0 1))")
	checkNodes(t, "| a b | [a. b]", 2, "(block 0 0 (seq (var 1 0) (var 1 1)))")
	checkNodes(t, "| a b | [[[b]]]", 2, "(block 0 0 (block 0 0 (block 0 0 (var 3 1))))")
	checkNodes(t, "| a b | [:c | | d | a. b. c. d. [:e | a. b. c. d. e. [| f g | a. b. c. d. e. f. g]]]. a", 2,
		"(block 1 2 (seq (var 1 0) (var 1 1) (var 0 0) (var 0 1) (block 1 1 (seq (var 2 0) (var 2 1) (var 1 0) (var 1 1) (var 0 0) (block 0 2 (seq (var 3 0) (var 3 1) (var 2 0) (var 2 1) (var 1 0) (var 0 0) (var 0 1))))))) (var 0 0)")
	checkNodes(t, "[:a :b | a. b]. [:b :a | a. b]. [:c | | a b | a. b. c]", 0, "(block 2 2 (seq (var 0 0) (var 0 1))) (block 2 2 (seq (var 0 1) (var 0 0))) (block 1 3 (seq (var 0 1) (var 0 2) (var 0 0)))")
	checkNodes(t, "| z | [:a | [:b | ]. [:b | b foo: a]. z]", 1, "(block 1 1 (seq (block 1 1 nil) (block 1 1 (send foo: (var 0 0) (var 1 0))) (var 1 0)))")
	checkNodes(t, "| a | [a] foo: [a] bar: [:b | a foo: b]", 1, "(send foo:bar: (block 0 0 (var 1 0)) (block 0 0 (var 1 0)) (block 1 1 (send foo: (var 1 0) (var 0 0))))")
	for _, kind := range []string{"method", "classmethod"} {
		checkInClass(t, "class A extends Object end class B extends A", kind, "^ p foo: q", 2, "(return (send foo: (var 0 0) (var 0 1)))")
		checkInClass(t, "class A extends Object end class B extends A", kind, "| r s | s. r. q. p", 4, "(var 0 3) (var 0 2) (var 0 1) (var 0 0) self")
		checkInClass(t, "class A extends Object end class B extends A", kind, "| r | [:s | p. q. r. s. [s. q]]", 3, "(block 1 1 (seq (var 1 0) (var 1 1) (var 1 2) (var 0 0) (block 0 0 (seq (var 1 0) (var 2 1))))) self")
	}
	checkNodes(t, "| text size Self object ifTrue | text. size size. Self. object ifTrue", 5, "(var 0 0) (send size (var 0 1)) (var 0 2) (send ifTrue (var 0 3))")
}

func TestLowerAssignments(t *testing.T) {
	checkNodes(t, "| a | a := 3", 1, "(setvar 0 0 3)")
	checkNodes(t, "| a b | b := a := b", 2, "(setvar 0 1 (setvar 0 0 (var 0 1)))")
	checkNodes(t, "| a b | [a := b. [b := a]]", 2, "(block 0 0 (seq (setvar 1 0 (var 1 1)) (block 0 0 (setvar 2 1 (var 2 0)))))")
	checkNodes(t, "| a | [:b | | c | c := b. a := c. [c := a. [:d | | e | e := c := d]]]", 1,
		"(block 1 2 (seq (setvar 0 1 (var 0 0)) (setvar 1 0 (var 0 1)) (block 0 0 (seq (setvar 1 1 (var 2 0)) (block 1 2 (setvar 0 1 (setvar 2 1 (var 0 0))))))))")
	checkNodes(t, "| a | (a := 3) foo: (a := 4). ^ a := self", 1, "(send foo: (setvar 0 0 3) (setvar 0 0 4)) (return (setvar 0 0 self))")
	checkInClass(t, "class A extends Object end class B extends A", "method", "| r | r := p. ^ [r := q]", 3, "(setvar 0 2 (var 0 0)) (return (block 0 0 (setvar 1 2 (var 1 1))))")
}

func TestLowerFields(t *testing.T) {
	for _, classes := range []string{
		"class A extends Object end class B extends A fields f g",
		"class A extends Object fields f end class B extends A fields g",
		"class A extends Object fields f g end class B extends A",
		"class A extends Object fields g end class C extends A fields x end class D extends C fields f end class B extends D",
	} {
		checkInClass(t, classes, "method", "^ f", 2, "(return (field f))")
		checkInClass(t, classes, "method", "f. g := f. f := p foo: (g := q)", 2, "(field f) (setfield g (field f)) (setfield f (send foo: (var 0 0) (setfield g (var 0 1)))) self")
		checkInClass(t, classes, "method", "| r | r := f := r. [:s | f. [g := s. r := f]]", 3, "(setvar 0 2 (setfield f (var 0 2))) (block 1 1 (seq (field f) (block 0 0 (seq (setfield g (var 1 0)) (setvar 2 2 (field f)))))) self")
		checkInClass(t, classes, "classmethod", "| f | [:g | f := g]", 3, "(block 1 1 (setvar 1 2 (var 0 0))) self")
	}
	for _, parent := range extendable[1:] {
		classes := "class A extends " + parent + " fields x end class B extends A fields f"
		checkInClass(t, classes, "method", "text := x := f. ^ [text]", 2, "(setfield text (setfield x (field f))) (return (block 0 0 (field text)))")
		checkInClass(t, classes, "classmethod", "| text x | text := x. [text]", 4, "(setvar 0 2 (var 0 3)) (block 0 0 (var 1 2)) self")
	}
	checkInClass(t, "class A extends Object fields f end class B extends Object", "method", "| f | f := p. ^ f", 3, "(setvar 0 2 (var 0 0)) (return (var 0 2))")
	checkInClass(t, "class A extends Object end class B extends A fields size at", "method", "size size. at at: size put: at", 2, "(send size (field size)) (send at:put: (field at) (field size) (field at)) self")
}

func TestLowerSends(t *testing.T) {
	checkNodesOf(t,
		"1 foo", "(send foo 1)", "1 foo bar", "(send bar (send foo 1))", "1 + 2", "(send + 1 2)", "1 + 2 - 3", "(send - (send + 1 2) 3)", "1 at: 2 put: 3", "(send at:put: 1 2 3)",
		"1 a: 2 b: 3 c: 4 d: 5", "(send a:b:c:d: 1 2 3 4 5)", "(1 a: (2 foo)) b: (3 * 4)", "(send b: (send a: 1 (send foo 2)) (send * 3 4))", "self foo: nil", "(send foo: self nil)",
		"[1] value", "(send value (block 0 0 1))", "[:a | a] value: 3", "(send value: (block 1 1 (var 0 0)) 3)", "A new", "(send new (class 16))", "^ 1 foo", "(return (send foo 1))",
		"1 foo: [2. 3]", "(send foo: 1 (block 0 0 (seq 2 3)))", "1 foo: [] bar: [:a :b | ]", "(send foo:bar: 1 (block 0 0 nil) (block 2 2 nil))")
	for _, s := range operators {
		checkNodesOf(t, "1 "+s+" 2", "(send "+s+" 1 2)", "1 foo; "+s+" 2", "(cascade 1 (send foo) (send "+s+" 2))")
	}
	checkNodesOf(t,
		"1 foo; bar", "(cascade 1 (send foo) (send bar))", "1 + 2; - 3", "(cascade 1 (send + 2) (send - 3))", "1 foo bar; baz", "(cascade (send foo 1) (send bar) (send baz))",
		"1 a: 2 b: 3; c; d: 4; + 5", "(cascade 1 (send a:b: 2 3) (send c) (send d: 4) (send + 5))", "(1 foo; bar) baz", "(send baz (cascade 1 (send foo) (send bar)))",
		"1 foo; bar: (2 foo; baz)", "(cascade 1 (send foo) (send bar: (cascade 2 (send foo) (send baz))))", "[] foo; bar", "(cascade (block 0 0 nil) (send foo) (send bar))",
		"self foo; bar: [:a | a]", "(cascade self (send foo) (send bar: (block 1 1 (var 0 0))))", "^ 1 foo; bar", "(return (cascade 1 (send foo) (send bar)))",
		"Array new; new: 3; yourself", "(cascade (class 10) (send new) (send new: 3) (send yourself))")
	checkNodes(t, "| a | (a := 3) foo: a; bar: (a := 4)", 1, "(cascade (setvar 0 0 3) (send foo: (var 0 0)) (send bar: (setvar 0 0 4)))")
	checkNodes(t, "| a | [:b | b foo: a; bar: b baz: a]", 1, "(block 1 1 (cascade (var 0 0) (send foo: (var 1 0)) (send bar:baz: (var 0 0) (var 1 0))))")
}

func TestLowerSuper(t *testing.T) {
	parents := map[string]string{
		"class B extends Object": "0", "class B extends Exception": "1", "class B extends Error": "2", "class B extends MessageNotUnderstood": "3", "class B extends ZeroDivide": "4",
		"class A extends Object end class B extends A": "16", "class A extends Error end class C extends A end class B extends C": "17", "class A extends Object end class C extends Object end class B extends A": "16",
		"class A extends Object end class C extends A end class B extends Error": "2", "class C1 extends Object end class C2 extends C1 end class C3 extends C2 end class C4 extends C3 end class B extends C3": "18",
	}
	for classes, k := range parents {
		for _, kind := range []string{"method", "classmethod"} {
			check := func(body string, slots int, want string) {
				t.Helper()
				checkInClass(t, classes, kind, body, slots, strings.ReplaceAll(want, "(super", "(super "+k))
			}
			check("^ super foo", 2, "(return (super foo))")
			check("super foo bar. super + p. super a: p b: q", 2, "(send bar (super foo)) (super + (var 0 0)) (super a:b: (var 0 0) (var 0 1)) self")
			check("(super foo: (super bar)) baz; + (super foo)", 2, "(cascade (super foo: (super bar)) (send baz) (send + (super foo))) self")
			check("^ [:r | [super foo: r bar: p]]", 2, "(return (block 1 1 (block 0 0 (super foo:bar: (var 1 0) (var 2 0)))))")
			check("super value. nil super. nil super: #super. 'super' super", 2, "(super value) (send super nil) (send super: nil #super) (send super 'super') self")
			check("super ifTrue: [1]. super ifFalse: [1]. super ifTrue: [1] ifFalse: [2]. super ifFalse: [1] ifTrue: [2]", 2,
				"(super ifTrue: (block 0 0 1)) (super ifFalse: (block 0 0 1)) (super ifTrue:ifFalse: (block 0 0 1) (block 0 0 2)) (super ifFalse:ifTrue: (block 0 0 1) (block 0 0 2)) self")
			check("super and: [1]. super or: [p]. super to: p do: [:i | i]. super to: p do: [:i | | j | j := q]", 2,
				"(super and: (block 0 0 1)) (super or: (block 0 0 (var 1 0))) (super to:do: (var 0 0) (block 1 1 (var 0 0))) (super to:do: (var 0 0) (block 1 2 (setvar 0 1 (var 1 1)))) self")
			check("super whileTrue: [1]. super whileFalse: [| r | r]. super whileTrue: p", 2, "(super whileTrue: (block 0 0 1)) (super whileFalse: (block 0 1 (var 0 0))) (super whileTrue: (var 0 0)) self")
			check("super foo ifTrue: [super ifTrue: [1]]", 2, "(if (super foo) (super ifTrue: (block 0 0 1)) nil) self")
			check("[super foo] whileTrue: [| r | super foo: r]", 3, "(while 1 (super foo) (seq (setvar 0 2 nil) (super foo: (var 0 2)))) self")
		}
	}
}

func TestLowerChoices(t *testing.T) {
	checkNodesOf(t,
		"1 ifTrue: [2]", "(if 1 2 nil)", "1 ifFalse: [2]", "(if 1 nil 2)", "1 ifTrue: [2] ifFalse: [3]", "(if 1 2 3)", "1 ifFalse: [2] ifTrue: [3]", "(if 1 3 2)", "1 and: [2]", "(if 1 2 false)", "1 or: [2]", "(if 1 true 2)",
		"1 ifTrue: []", "(if 1 nil nil)", "1 ifFalse: []", "(if 1 nil nil)", "1 ifTrue: [] ifFalse: [3]", "(if 1 nil 3)", "1 ifFalse: [] ifTrue: [3]", "(if 1 3 nil)", "1 and: []", "(if 1 nil false)", "1 or: []", "(if 1 true nil)",
		"1 ifTrue: [2. 3]", "(if 1 (seq 2 3) nil)", "1 ifFalse: [2. 3]", "(if 1 nil (seq 2 3))", "1 ifTrue: [2. 3] ifFalse: [4. 5. 6]", "(if 1 (seq 2 3) (seq 4 5 6))", "1 ifFalse: [2. 3] ifTrue: [4. 5. 6]", "(if 1 (seq 4 5 6) (seq 2 3))",
		"1 and: [2. 3]", "(if 1 (seq 2 3) false)", "1 or: [2. ^ 3]", "(if 1 true (seq 2 (return 3)))", "1 ifTrue: [^ 2]", "(if 1 (return 2) nil)", "1 ifTrue: [^ 2] ifFalse: [^ 3]", "(if 1 (return 2) (return 3))",
		"^ 1 ifTrue: [2]", "(return (if 1 2 nil))", "(1 ifTrue: [2]) foo: (3 or: [4])", "(send foo: (if 1 2 nil) (if 3 true 4))", "(1 ifTrue: [2]) foo; bar", "(cascade (if 1 2 nil) (send foo) (send bar))", "1 foo; bar: (2 and: [3])", "(cascade 1 (send foo) (send bar: (if 2 3 false)))",
		"(1 and: [2]) and: [3 or: [4]]", "(if (if 1 2 false) (if 3 true 4) false)", "1 ifTrue: [2 ifTrue: [3 ifTrue: [4]]]", "(if 1 (if 2 (if 3 4 nil) nil) nil)", "(1 ifTrue: [2]) ifTrue: [3]", "(if (if 1 2 nil) 3 nil)",
		"[1] ifTrue: [2]", "(if (block 0 0 1) 2 nil)", "[:a | a] and: [2]", "(if (block 1 1 (var 0 0)) 2 false)", "1 foo ifTrue: [2 foo]", "(if (send foo 1) (send foo 2) nil)", "self < 3 ifTrue: [self]", "(if (send < self 3) self nil)")
}

func TestLowerLoopsAndCounts(t *testing.T) {
	checkNodesOf(t,
		"[1] whileTrue: [2]", "(while 1 1 2)", "[1] whileFalse: [2]", "(while 0 1 2)", "[] whileTrue: []", "(while 1 nil nil)", "[] whileFalse: []", "(while 0 nil nil)",
		"[1. 2] whileTrue: [3. 4. 5]", "(while 1 (seq 1 2) (seq 3 4 5))", "[1. 2] whileFalse: [3. ^ 4]", "(while 0 (seq 1 2) (seq 3 (return 4)))", "[^ 1] whileTrue: [^ 2]", "(while 1 (return 1) (return 2))",
		"[[1] whileTrue: [2]] whileFalse: [[3] whileTrue: [4]]", "(while 0 (while 1 1 2) (while 1 3 4))", "^ [1] whileTrue: [2]", "(return (while 1 1 2))", "([1] whileTrue: [2]) foo", "(send foo (while 1 1 2))")
	checkNodes(t, "1 to: 2 do: [:i | ]", 1, "(count 0 1 2 nil)")
	checkNodes(t, "1 to: 2 do: [:i | i]", 1, "(count 0 1 2 (var 0 0))")
	checkNodes(t, "1 to: 2 do: [:i | i. 3. ^ i]", 1, "(count 0 1 2 (seq (var 0 0) 3 (return (var 0 0))))")
	checkNodes(t, "| a | 1 + 2 to: a foo do: [:i | a := i]", 2, "(count 1 (send + 1 2) (send foo (var 0 0)) (setvar 0 0 (var 0 1)))")
	checkNodes(t, "| a | ^ a to: a do: [:i | | b c | b := i. c := b]", 4, "(return (count 1 (var 0 0) (var 0 0) (seq (setvar 0 2 nil) (setvar 0 3 nil) (setvar 0 2 (var 0 1)) (setvar 0 3 (var 0 2)))))")
	checkNodes(t, "1 to: 2 do: [:i | 3 to: 4 do: [:j | i foo: j. 5 to: i do: [:k | k]]. i]. 6 to: 7 do: [:l | l]", 3,
		"(count 0 1 2 (seq (count 1 3 4 (seq (send foo: (var 0 0) (var 0 1)) (count 2 5 (var 0 0) (var 0 2)))) (var 0 0))) (count 0 6 7 (var 0 0))")
	checkNodes(t, "(1 to: 2 do: [:i | i]) to: (3 to: 4 do: [:i | i]) do: [:i | i]", 1, "(count 0 (count 0 1 2 (var 0 0)) (count 0 3 4 (var 0 0)) (var 0 0))")
	checkNodes(t, "[1] to: [2] do: [:i | [i]]", 1, "(count 0 (block 0 0 1) (block 0 0 2) (block 0 0 (var 1 0)))")
}

// TestLowerSendsThatStay has the selectors of choices, loops and counts where a
// block is missing or has another number of parameters.
func TestLowerSendsThatStay(t *testing.T) {
	blocks := map[string]string{"[2]": "(block 0 0 2)", "[:a | a]": "(block 1 1 (var 0 0))", "[:a :b | ]": "(block 2 2 nil)", "[| a | a]": "(block 0 1 (var 0 0))", "[:a | | b c | b]": "(block 1 3 (var 0 1))", "[]": "(block 0 0 nil)",
		"2": "2", "self": "self", "(2 foo: [3])": "(send foo: 2 (block 0 0 3))", "([2] foo; bar)": "(cascade (block 0 0 2) (send foo) (send bar))", "(2 and: [3])": "(if 2 3 false)", "nil": "nil", "#a": "#a"}
	isWritten := func(s string, params int) bool {
		return strings.HasPrefix(s, "[") && strings.Count(s, ":") == params
	}
	for one, first := range blocks {
		for _, s := range []string{"ifTrue:", "ifFalse:", "and:", "or:"} {
			if !isWritten(one, 0) {
				checkNodesOf(t, "1 "+s+" "+one, "(send "+s+" 1 "+first+")", "^ nil "+s+" "+one, "(return (send "+s+" nil "+first+"))", "[3] "+s+" "+one, "(send "+s+" (block 0 0 3) "+first+")")
			}
			checkNodesOf(t, "1 foo; "+s+" "+one, "(cascade 1 (send foo) (send "+s+" "+first+"))", "1 "+s+" "+one+"; foo", "(cascade 1 (send "+s+" "+first+") (send foo))")
		}
		for two, second := range blocks {
			for _, s := range [][]string{{"ifTrue:", "ifFalse:"}, {"ifFalse:", "ifTrue:"}} {
				if !isWritten(one, 0) || !isWritten(two, 0) {
					checkNodesOf(t, "1 "+s[0]+" "+one+" "+s[1]+" "+two, "(send "+s[0]+s[1]+" 1 "+first+" "+second+")")
				}
				checkNodesOf(t, "1 foo; "+s[0]+" "+one+" "+s[1]+" "+two, "(cascade 1 (send foo) (send "+s[0]+s[1]+" "+first+" "+second+"))")
			}
			for _, s := range []string{"whileTrue:", "whileFalse:"} {
				if !isWritten(one, 0) || !isWritten(two, 0) {
					checkNodesOf(t, one+" "+s+" "+two, "(send "+s+" "+first+" "+second+")")
				}
				checkNodesOf(t, one+" "+s+" "+two+"; foo", "(cascade "+first+" (send "+s+" "+second+") (send foo))")
			}
			if !isWritten(two, 1) {
				checkNodesOf(t, "1 to: "+one+" do: "+two, "(send to:do: 1 "+first+" "+second+")", one+" to: 1 do: "+two, "(send to:do: "+first+" 1 "+second+")")
			}
			checkNodesOf(t, "1 foo; to: "+one+" do: "+two, "(cascade 1 (send foo) (send to:do: "+first+" "+second+"))")
		}
	}
	for _, s := range []string{"ifTrue", "and", "or", "whileTrue", "to", "ifNil", "value", "whileFalse", "ifFalse", "do"} {
		checkNodesOf(t, "[1] "+s, "(send "+s+" (block 0 0 1))", "[1] "+s+"; foo", "(cascade (block 0 0 1) (send "+s+") (send foo))")
	}
	for _, s := range []string{"iftrue:", "IfTrue:", "ifTrue1:", "xor:", "AND:", "until:", "to:", "do:", "whiletrue:", "on:do:", "to:do:by:", "to:by:do:", "ifTrue:ifTrue:", "ifFalse:ifFalse:", "and:and:", "or:or:", "ifTrue:or:", "do:to:", "whileTrue:whileFalse:", "ifTrue:ifFalse:and:"} {
		text, want := "[1]", "(send "+s+" (block 0 0 1)"
		for _, part := range strings.SplitAfter(s, ":")[:strings.Count(s, ":")] {
			text, want = text+" "+part+" []", want+" (block 0 0 nil)"
		}
		checkNodesOf(t, text, want+")", strings.ReplaceAll(text, "[]", "[:a | ]"), strings.ReplaceAll(want, "0 0 nil", "1 1 nil")+")")
	}
}

func TestLowerBlocksWrittenWhereTheyStand(t *testing.T) {
	set := func(slots ...string) string {
		return "(setvar 0 " + strings.Join(slots, " nil) (setvar 0 ") + " nil) "
	}
	checkNodes(t, "1 ifTrue: [| a | ]", 1, "(if 1 (seq "+set("0")+"nil) nil)")
	checkNodes(t, "1 ifTrue: [| a b c | ]", 3, "(if 1 (seq "+set("0", "1", "2")+"nil) nil)")
	checkNodes(t, "1 ifFalse: [| a | a]", 1, "(if 1 nil (seq "+set("0")+"(var 0 0)))")
	checkNodes(t, "1 and: [| a b | a := b. ^ a]", 2, "(if 1 (seq "+set("0", "1")+"(setvar 0 0 (var 0 1)) (return (var 0 0))) false)")
	checkNodes(t, "1 or: [| a | 3. 4]", 1, "(if 1 true (seq "+set("0")+"3 4))")
	checkNodes(t, "1 ifTrue: [| a | a] ifFalse: [| b c | c]", 2, "(if 1 (seq "+set("0")+"(var 0 0)) (seq "+set("0", "1")+"(var 0 1)))")
	checkNodes(t, "1 ifFalse: [| a | a] ifTrue: [| b c | c]", 2, "(if 1 (seq "+set("0", "1")+"(var 0 1)) (seq "+set("0")+"(var 0 0)))")
	checkNodes(t, "[| a b | b] whileTrue: [| c | c]", 2, "(while 1 (seq "+set("0", "1")+"(var 0 1)) (seq "+set("0")+"(var 0 0)))")
	checkNodes(t, "[| a | ] whileFalse: [| c d e | ]", 3, "(while 0 (seq "+set("0")+"nil) (seq "+set("0", "1", "2")+"nil))")
	checkNodes(t, "1 to: 2 do: [:i | | a b | ]", 3, "(count 0 1 2 (seq "+set("1", "2")+"nil))")
	checkNodes(t, "| x y | 1 ifTrue: [| a | x := a]", 3, "(if 1 (seq "+set("2")+"(setvar 0 0 (var 0 2))) nil)")
	// The slots are used again behind a block, also by its neighbours.
	checkNodes(t, "1 ifTrue: [| a b | b]. 2 ifTrue: [| c | c]. 3 to: 4 do: [:d | d]", 2, "(if 1 (seq "+set("0", "1")+"(var 0 1)) nil) (if 2 (seq "+set("0")+"(var 0 0)) nil) (count 0 3 4 (var 0 0))")
	checkNodes(t, "1 ifTrue: [| a | a]. 2 ifTrue: [| a b | b := a]", 2, "(if 1 (seq "+set("0")+"(var 0 0)) nil) (if 2 (seq "+set("0", "1")+"(setvar 0 1 (var 0 0))) nil)")
	checkNodes(t, "(1 ifTrue: [| a | a]) foo: (2 ifTrue: [| b c | c]) bar: (3 or: [| d | d])", 2, "(send foo:bar: (if 1 (seq "+set("0")+"(var 0 0)) nil) (if 2 (seq "+set("0", "1")+"(var 0 1)) nil) (if 3 true (seq "+set("0")+"(var 0 0))))")
	checkNodes(t, "(1 ifTrue: [| a | a]) ifTrue: [| b | b]", 1, "(if (if 1 (seq "+set("0")+"(var 0 0)) nil) (seq "+set("0")+"(var 0 0)) nil)")
	checkNodes(t, "(1 ifTrue: [| a b | a]) foo; bar: (2 or: [| c | c]); baz", 2, "(cascade (if 1 (seq "+set("0", "1")+"(var 0 0)) nil) (send foo) (send bar: (if 2 true (seq "+set("0")+"(var 0 0)))) (send baz))")
	checkNodes(t, "(1 ifTrue: [| a b c | c]) to: (2 ifTrue: [| d e | e]) do: [:i | i]", 3, "(count 0 (if 1 (seq "+set("0", "1", "2")+"(var 0 2)) nil) (if 2 (seq "+set("0", "1")+"(var 0 1)) nil) (var 0 0))")
	// Nested ones take the slots behind those of the blocks around them.
	checkNodes(t, "| x | 1 ifTrue: [| a | 2 ifTrue: [| b c | 3 ifTrue: [| d | d. c. b. a. x]. b]. 4 ifTrue: [| e | e]. a]. x", 5,
		"(if 1 (seq "+set("1")+"(if 2 (seq "+set("2", "3")+"(if 3 (seq "+set("4")+"(var 0 4) (var 0 3) (var 0 2) (var 0 1) (var 0 0)) nil) (var 0 2)) nil) (if 4 (seq "+set("2")+"(var 0 2)) nil) (var 0 1)) nil) (var 0 0)")
	checkNodes(t, "1 to: 2 do: [:i | | a | [i] whileTrue: [| b | 3 to: b do: [:j | | c | c := a]]]", 5,
		"(count 0 1 2 (seq "+set("1")+"(while 1 (var 0 0) (seq "+set("2")+"(count 3 3 (var 0 2) (seq "+set("4")+"(setvar 0 4 (var 0 1))))))))")
	checkNodes(t, "[| a | 1 ifTrue: [| b | b]] whileTrue: [| c d | 2 ifTrue: [| e | e]]", 3, "(while 1 (seq "+set("0")+"(if 1 (seq "+set("1")+"(var 0 1)) nil)) (seq "+set("0", "1")+"(if 2 (seq "+set("2")+"(var 0 2)) nil)))")
}

// TestLowerBlocksOfBothKinds has blocks of their own inside of blocks that are
// written where they stand, and the other way round.
func TestLowerBlocksOfBothKinds(t *testing.T) {
	checkNodes(t, "| x | 1 ifTrue: [| a | [a := x]]", 2, "(if 1 (seq (setvar 0 1 nil) (block 0 0 (setvar 1 1 (var 1 0)))) nil)")
	checkNodes(t, "| x | 1 ifTrue: [| a | [:b | | c | a. b. c. x]]", 2, "(if 1 (seq (setvar 0 1 nil) (block 1 2 (seq (var 1 1) (var 0 0) (var 0 1) (var 1 0)))) nil)")
	checkNodes(t, "1 to: 2 do: [:i | [i]. [[:j | j foo: i]]]", 1, "(count 0 1 2 (seq (block 0 0 (var 1 0)) (block 0 0 (block 1 1 (send foo: (var 0 0) (var 2 0))))))")
	checkNodes(t, "| x | [1 ifTrue: [| a | a := x]]", 1, "(block 0 1 (if 1 (seq (setvar 0 0 nil) (setvar 0 0 (var 1 0))) nil))")
	checkNodes(t, "| x | [:b | | c | 1 ifTrue: [| a | a. b. c. x]. 2 to: 3 do: [:i | i]]. 4 ifTrue: [| d e | e]", 3,
		"(block 1 3 (seq (if 1 (seq (setvar 0 2 nil) (var 0 2) (var 0 0) (var 0 1) (var 1 0)) nil) (count 2 2 3 (var 0 2)))) (if 4 (seq (setvar 0 1 nil) (setvar 0 2 nil) (var 0 2)) nil)")
	checkNodes(t, "| x | 1 ifTrue: [| a | [:b | 2 ifTrue: [| c | [:d | 3 ifTrue: [| e | x. a. b. c. d. e]]]]]", 2,
		"(if 1 (seq (setvar 0 1 nil) (block 1 2 (if 2 (seq (setvar 0 1 nil) (block 1 2 (if 3 (seq (setvar 0 1 nil) (var 2 0) (var 2 1) (var 1 0) (var 1 1) (var 0 0) (var 0 1)) nil))) nil))) nil)")
	checkNodes(t, "1 ifTrue: [| a b | [| c d e | 2 ifTrue: [| f | f]]. 3 ifTrue: [| g | g]]", 3,
		"(if 1 (seq (setvar 0 0 nil) (setvar 0 1 nil) (block 0 4 (if 2 (seq (setvar 0 3 nil) (var 0 3)) nil)) (if 3 (seq (setvar 0 2 nil) (var 0 2)) nil)) nil)")
	checkInClass(t, "class B extends Object fields f", "method", "| r | f ifTrue: [| s | s := f. ^ [f := s]] ifFalse: [p to: q do: [:i | [:j | f := i. r := j]]]", 4,
		"(if (field f) (seq (setvar 0 3 nil) (setvar 0 3 (field f)) (return (block 0 0 (setfield f (var 1 3))))) (count 3 (var 0 0) (var 0 1) (block 1 1 (seq (setfield f (var 1 3)) (setvar 1 2 (var 0 0)))))) self")
}

// TestLowerSlots has bodies whose slots alone are compared: in use at the same
// time are those of the blocks around a place that are written where they stand.
func TestLowerSlots(t *testing.T) {
	for body, want := range map[string][]string{
		"": {"0"}, "| a b |": {"2"}, "| a b | 1 ifTrue: []": {"2"}, "| a b | 1 ifTrue: [| c |]": {"3"}, "1 ifTrue: [| a |] ifFalse: [| a b c |]": {"3"}, "1 ifTrue: [| a b c |] ifFalse: [| a |]": {"3"},
		"1 ifTrue: [| a b c |]. 2 ifTrue: [| d e |]. 3 ifTrue: [| f |]": {"3"}, "1 ifTrue: [| a |]. 2 ifTrue: [| b c d |]. 3 ifTrue: [| e f |]": {"3"},
		"| x | 1 ifTrue: [| a b c |]. 2 ifTrue: [| d | 3 ifTrue: [| e | 4 ifTrue: [| f |]]]":   {"4"},
		"| x | 1 ifTrue: [| a b c d |]. 2 ifTrue: [| d | 3 ifTrue: [| e | 4 ifTrue: [| f |]]]": {"5"},
		"1 to: 2 do: [:i | ]. 1 to: 2 do: [:j | ]":                                             {"1"},
		"1 to: 2 do: [:i | 1 to: 2 do: [:j | 1 to: 2 do: [:k | | l |]]]":                       {"4"},
		"(1 to: (2 ifTrue: [| a b |]) do: [:i | ]) ifTrue: [| c | ]":                           {"2"},
		"[| a b c |]":                             {"0", "3"},
		"| x | [:a | | b |]. [| c |]":             {"1", "2", "1"},
		"1 ifTrue: [| x | [:a | | b |]. [| c |]]": {"1", "2", "1"},
		"1 to: 2 do: [:i | [:j | 1 to: 2 do: [:k | | l m | [| n |]]]]. [1 ifTrue: [| a b c d e |]]":     {"1", "4", "1", "5"},
		"[:a :b | [| c d | ] whileTrue: [| e | 1 or: [| f g | [:h | | i j | ]]]]":                       {"0", "5", "3"},
		"| x y | [[[| a |]. 1 and: [| b c |]] whileFalse: [| d e f |]] value. 1 ifFalse: [| g h i j |]": {"6", "3", "1"},
	} {
		s := lowered(t, "main "+body)
		got := []string{strconv.Itoa(s.Main.Slots)}
		for _, c := range coreNodesOf(&s.Main.Body) {
			if c.Kind == impl.CoreBlock {
				got = append(got, strconv.Itoa(c.Depth))
			}
		}
		if !slices.Equal(got, want) {
			t.Errorf("the slots of %q are %v, want %v", body, got, want)
		}
	}
}

func TestLowerUnitsWithProblems(t *testing.T) {
	for _, source := range []string{
		"main ^ q", "class A extends B end main", "class A extends Integer end main", "class Error extends Object end main", "class A extends Error fields text end main", "class A extends Object method m ^ 1 method m ^ 2 end main",
		"class A extends Object fields x method m: x ^ 1 end main", "class A extends Object method m: p p := 1 end main", "main ^ super size", "main | x | [:x | x] value: 1", "class A extends Object fields x classmethod m ^ x end main ^ 1",
		"class A extends Object fields a b c d end class B extends A fields e f g h end class C extends B fields i end main", "class A extends Object end class A extends Object end main", "main super foo; bar", "main self := 3", "main 1 to: 2 do: [:i | i := 3]",
		"main 1 ifTrue: [| a |]. a", "main | a | 1 ifTrue: [| a | a]", "main 1 to: 2 do: [:i | ]. i", "main 1 ifTrue: [2 ifTrue: [q]]",
	} {
		checkNotLowered(t, parsed(t, source))
	}
	checkNotLowered(t, impl.Unit{}, unit(classMethod("main", "", "")), unit(method("m", "", "")), unit(mainOf("end")), unit(mainOf("", send("a"))), unit(mainOf(""), impl.ClassDef{}), unit(mainOf(""), class("A", "Object", "a b c d e")), unit(mainOf(""), classList(9)...),
		withMethod(method("at:", "", "")), unit(mainOf("", impl.Expr{})), unit(mainOf("", deep(300000))), unit(mainOf("", doubled(60, number(1)))), unit(mainOf("", endless(2, "x"))), unit(mainOf("x", endless(1, "x"))), unit(mainOf("", wide(400))))
	counts := map[bool]int{}
	for _, sample := range []impl.Unit{sampleUnit(), sampleChecked(t)} {
		for _, change := range changesOfUnits() {
			changed := copyOfUnit(sample)
			change(&changed)
			counts[checkLoweredByWords(t, changed)]++
		}
	}
	if counts[true] < 500 || counts[false] < 500 {
		t.Error(counts)
	}
}

// names are n different names, beginning with s.
func names(s string, n int) string {
	var list []string
	for i := range n {
		list = append(list, s+strconv.Itoa(i))
	}
	return strings.Join(list, " ")
}

// checkLimit has two bodies: the routine for the first one keeps the limits, the
// one for the second one does not, wherever they stand.
func checkLimit(t *testing.T, keeps, exceeds string) {
	t.Helper()
	for _, context := range []string{"main BODY", "class A extends Object classmethod m BODY end main", "class A extends Object fields f method n ^ f method + p BODY end class B extends A end main"} {
		lowered(t, strings.ReplaceAll(context, "BODY", keeps))
		checkNotLowered(t, parsed(t, strings.ReplaceAll(context, "BODY", exceeds)))
	}
}

func TestLowerLimitOfSlots(t *testing.T) {
	// A method + has one parameter, so that its variables are one less.
	lowered(t, "main | "+names("a", 30)+" |")
	checkNotLowered(t, parsed(t, "main | "+names("a", 31)+" |"))
	for _, kind := range []string{"method", "classmethod"} {
		lowered(t, "class A extends Object "+kind+" at: p put: q | "+names("a", 28)+" | ^ p end main")
		checkNotLowered(t, parsed(t, "class A extends Object "+kind+" at: p put: q | "+names("a", 29)+" | ^ p end main"))
	}
	checkLimit(t, "[| "+names("a", 30)+" |]", "[| "+names("a", 31)+" |]")
	checkLimit(t, "| x | [:b :c | | "+names("a", 28)+" | [| "+names("d", 30)+" |]]", "| x | [:b :c | | "+names("a", 29)+" | [| "+names("d", 30)+" |]]")
	checkLimit(t, "| x | [:b :c | | "+names("a", 28)+" | [| "+names("d", 30)+" |]]", "| x | [:b :c | | "+names("a", 28)+" | [| "+names("d", 31)+" |]]")
	checkLimit(t, "| "+names("a", 29)+" | [| "+names("b", 30)+" |]. [| "+names("c", 30)+" |]. [| d | ]", "| "+names("a", 29)+" | [| "+names("b", 30)+" |]. [| "+names("c", 30)+" |]. [| "+names("d", 31)+" |]")
	lowered(t, "main 1 ifTrue: [| "+names("a", 30)+" |]")
	checkLimit(t, "1 ifTrue: [| "+names("a", 29)+" |]", "1 ifTrue: [| "+names("a", 31)+" |]")
	for _, s := range []string{"1 ifTrue: [| b X | ]", "1 ifFalse: [| b X | ]", "1 and: [| b X | ]", "1 or: [| b X | ]", "[] whileTrue: [| b X | ]", "[| b X | ] whileFalse: []", "1 to: 2 do: [:b | | X | ]", "1 ifTrue: [] ifFalse: [| b X | ]", "1 ifTrue: [| b X | ] ifFalse: []",
		"1 ifTrue: [| b | 2 ifTrue: [| X | ]]", "1 to: 2 do: [:b | 3 ifTrue: [| X | ]]", "1 ifTrue: [| X | 2 to: 3 do: [:b | ]]", "(1 ifTrue: [| b X | ]) ifTrue: [| c | ]", "nil foo: (1 ifTrue: [| b X | ])", "nil foo; bar: (1 ifTrue: [| b X | ])", "^ 1 ifTrue: [| b X | ]"} {
		for own := range 12 {
			head := "| " + names("a", own) + " | "
			keeps := head + strings.ReplaceAll(s, "X", names("x", 28-own))
			lowered(t, "main "+strings.ReplaceAll(keeps, "x0", "x0 y"))
			checkNotLowered(t, parsed(t, "main "+strings.ReplaceAll(keeps, "x0", "x0 y z")))
			lowered(t, "class A extends Object method m: p "+keeps+" end main")
			checkNotLowered(t, parsed(t, "class A extends Object method m: p "+strings.ReplaceAll(keeps, "x0", "x0 y")+" end main"))
			lowered(t, "main ["+strings.ReplaceAll(keeps, "x0", "x0 y")+"]")
			checkNotLowered(t, parsed(t, "main ["+strings.ReplaceAll(keeps, "x0", "x0 y z")+"]"))
		}
	}
	// The slots of neighbours are not in use at the same time.
	checkLimit(t, "| a | "+strings.Repeat("1 ifTrue: [| "+names("b", 28)+" | ]. ", 5), "| a | "+strings.Repeat("1 ifTrue: [| "+names("b", 28)+" | ]. ", 5)+"1 ifTrue: [| "+names("b", 30)+" | ]")
}

// TestLowerManyNames has blocks with far more names than slots, for which no
// nodes are made.
func TestLowerManyNames(t *testing.T) {
	many := block(0, names("n", 50000))
	writes := slices.Repeat(exprs{send("ifTrue:", number(1), many)}, 60)
	for _, u := range []impl.Unit{unit(mainOf(names("n", 50000))), unit(mainOf("", many)), unit(mainOf("", send("foo", writes[0]))), unit(mainOf(""), class("A", "Object", "", method("m", "", "", writes...)))} {
		checkNotLowered(t, u)
	}
	checked := testing.AllocsPerRun(1, func() { impl.CheckUnit(unit(mainOf("", writes...))) })
	if all := testing.AllocsPerRun(1, func() { checkNotLowered(t, unit(mainOf("", writes...))) }); all > checked+50000 {
		t.Errorf("a unit that is not lowered takes %v pieces of memory, its check %v", all, checked)
	}
}

// coreSizeOf counts the nodes of a tree, coreDepthOf those of its longest path.
func coreSizeOf(c impl.Core) int {
	return len(coreNodesOf(&c))
}

func coreDepthOf(c impl.Core) int {
	deepest := 0
	for _, kid := range c.Kids {
		deepest = max(deepest, coreDepthOf(kid))
	}
	return 1 + deepest
}

func TestLowerLimitOfNodes(t *testing.T) {
	// A choice with 22 variables has 49 nodes.
	choice := "1 ifTrue: [| " + names("a", 22) + " | ]"
	if size := coreSizeOf(lowered(t, "main "+choice).Main.Body); size != 49 {
		t.Fatalf("a choice has %d nodes", size)
	}
	ten := strings.Repeat(choice+". ", 10)
	lowered(t, "main "+ten+strings.Repeat("1. ", 9))
	checkNotLowered(t, parsed(t, "main "+ten+strings.Repeat("1. ", 10)))
	for _, kind := range []string{"method", "classmethod"} {
		lowered(t, "class A extends Object method n "+kind+" m: p "+ten+strings.Repeat("1. ", 8)+"end main")
		lowered(t, "class A extends Object method n "+kind+" m: p "+ten+strings.Repeat("1. ", 7)+"^ 1 end main")
		checkNotLowered(t, parsed(t, "class A extends Object method n "+kind+" m: p "+ten+strings.Repeat("1. ", 9)+"end main"))
		checkNotLowered(t, parsed(t, "class A extends Object method n "+kind+" m: p "+ten+strings.Repeat("1. ", 8)+"^ 1 end main"))
	}
	for s, more := range map[string]int{"[B]": 1, "1 foo: [[B]]": 4, "[:p | B]": 1, "^ [B]": 2, "nil foo: 1 bar: [2. B] baz: 3": 6, "nil foo; bar: [[[B]]]": 7, "[1 ifTrue: [2] ifFalse: [B]]": 4, "[[1] whileFalse: [B]]": 3} {
		for _, statements := range []int{9 - more, 10 - more} {
			body := strings.ReplaceAll(s, "B", ten+strings.Repeat("1. ", statements-1)+"2")
			u := parsed(t, "main "+body)
			if statements == 10-more {
				checkNotLowered(t, u)
				continue
			}
			if size := coreSizeOf(checkLowered(t, u).Main.Body); size != 500 {
				t.Errorf("%q has %d nodes", s, size)
			}
		}
	}
	// All routines have a limit of their own.
	u := parsed(t, "class A extends Object method m "+ten+strings.Repeat("1. ", 8)+"method n end main")
	u.Main.Body = append(slices.Clone(u.Classes[0].Methods[0].Body), number(1))
	u.Classes[0].Methods[1].Body = u.Classes[0].Methods[0].Body
	checkLowered(t, u)
	u.Classes[0].Methods[1].Body = u.Main.Body
	checkNotLowered(t, u)
}

func TestLowerLimitOfDepth(t *testing.T) {
	// 19 blocks with two statements, the second one of which has a depth of two.
	nest := func(inner string) string {
		return strings.Repeat("[1. ", 19) + inner + strings.Repeat("]", 19)
	}
	checkDepths := func(source string, want int) {
		t.Helper()
		s := lowered(t, source)
		deepest := 0
		for _, r := range routinesOf(&s) {
			deepest = max(deepest, coreDepthOf(r.Body))
		}
		if deepest != want {
			t.Errorf("%q has a depth of %d", source, deepest)
		}
	}
	checkDepths("main "+nest("2 foo"), 40)
	checkDepths("main 1. "+nest("2"), 40)
	checkDepths("main ^ "+nest("2"), 40)
	checkNotLowered(t, parsed(t, "main "+nest("2 foo bar")), parsed(t, "main "+nest("[2 foo]")), parsed(t, "main 1. "+nest("2 foo")), parsed(t, "main "+nest("2 foo")+". 1"), parsed(t, "main ^ "+nest("2 foo")), parsed(t, "main "+nest("2 foo")+" value"), parsed(t, "main 1 foo; bar: "+nest("2")),
		parsed(t, "main "+nest("[1. 2]")))
	for _, kind := range []string{"method", "classmethod"} {
		head := "class A extends Object method n " + kind + " m: p "
		checkDepths(head+nest("2")+" end main", 40)
		checkDepths(head+"^ "+nest("2")+" end main", 40)
		checkNotLowered(t, parsed(t, head+nest("2 foo")+" end main"), parsed(t, head+"^ "+nest("2 foo")+" end main"), parsed(t, head+"^ [1. "+nest("2")+"] end main"))
	}
	checkDepths("main "+strings.Repeat("[", 23)+strings.Repeat("]", 23), 24)
	checkDepths("main "+nest("1 ifTrue: []"), 40)
	checkDepths("main "+nest("1 ifTrue: [2]"), 40)
	checkNotLowered(t, parsed(t, "main "+nest("1 ifTrue: [2. 3]")), parsed(t, "main "+nest("1 ifTrue: [| a |]")), parsed(t, "main "+nest("1 ifTrue: [2 foo]")))
}

// binding is a variable that is known at a place.
type binding struct {
	name        string
	level, slot int
}

// surroundings is what a second reading of the chapter knows at a place.
type surroundings struct {
	classes, fields []string
	parent          int
	known           []binding
	level, free     int
}

// controls has the selectors of sends that are no sends: the kind and Number of
// the node, the number of parameters of each kid that must be a block (others
// are -), and the kids of the node: kids of the send by place, or n, t and f.
var controls = map[string]struct {
	kind, number int
	blocks, kids string
}{
	"ifTrue:":         {impl.CoreIf, 0, "-0", "01n"},
	"ifFalse:":        {impl.CoreIf, 0, "-0", "0n1"},
	"ifTrue:ifFalse:": {impl.CoreIf, 0, "-00", "012"},
	"ifFalse:ifTrue:": {impl.CoreIf, 0, "-00", "021"},
	"and:":            {impl.CoreIf, 0, "-0", "01f"},
	"or:":             {impl.CoreIf, 0, "-0", "0t1"},
	"whileTrue:":      {impl.CoreWhile, 1, "00", "01"},
	"whileFalse:":     {impl.CoreWhile, 0, "00", "01"},
	"to:do:":          {impl.CoreCount, 0, "--1", "012"},
}

func (w surroundings) with(names []string) surroundings {
	w.known = slices.Clone(w.known)
	for _, s := range names {
		w.known = append(w.known, binding{s, w.level, w.free})
		w.free++
	}
	return w
}

// all lowers expressions, behind some nodes, and returns these and the greatest
// number of slots of the level that are in use.
func (w surroundings) all(list exprs, nodes ...impl.Core) (cores, int) {
	most := w.free
	for _, e := range list {
		node, slots := w.lower(e)
		nodes, most = append(nodes, node), max(most, slots)
	}
	return nodes, most
}

func (w surroundings) lower(e impl.Expr) (impl.Core, int) {
	switch e.Kind {
	case impl.ExprInt, impl.ExprText, impl.ExprSymbol:
		return impl.Core{Kind: e.Kind, Text: e.Text, Number: e.Number}, w.free
	case impl.ExprName, impl.ExprAssign:
		return w.lowerName(e)
	case impl.ExprBlock:
		inside := w
		inside.level, inside.free = w.level+1, 0
		body, slots := inside.with(e.Names).all(e.Kids)
		return impl.Core{Kind: impl.CoreBlock, Number: e.Number, Depth: slots, Kids: cores{sequenceOf(body)}}, w.free
	}
	if node, slots, ok := w.lowerControl(e); ok {
		return node, slots
	}
	// A message of a cascade becomes a send that has arguments alone, like it.
	kids, most := w.all(e.Kids)
	switch {
	case e.Kind == impl.ExprReturn:
		return impl.Core{Kind: impl.CoreReturn, Kids: kids}, most
	case e.Kind == impl.ExprCascade:
		return impl.Core{Kind: impl.CoreCascade, Kids: kids}, most
	case isSuper(e):
		return impl.Core{Kind: impl.CoreSuper, Text: e.Text, Number: w.parent, Kids: kids[1:]}, most
	}
	return impl.Core{Kind: impl.CoreSend, Text: e.Text, Kids: kids}, most
}

// isSuper says whether an expression is a send to super.
func isSuper(e impl.Expr) bool {
	return len(e.Kids) > 0 && e.Kids[0].Kind == impl.ExprName && e.Kids[0].Text == "super"
}

func (w surroundings) lowerName(e impl.Expr) (impl.Core, int) {
	kids, most := w.all(e.Kids)
	for _, b := range slices.Backward(w.known) {
		if b.name == e.Text {
			return impl.Core{Kind: impl.CoreVar + len(kids), Depth: w.level - b.level, Number: b.slot, Kids: kids}, most
		}
	}
	if slices.Contains(w.fields, e.Text) {
		return impl.Core{Kind: impl.CoreField + len(kids), Text: e.Text, Kids: kids}, most
	}
	if kind := map[string]int{"nil": impl.CoreNil, "true": impl.CoreTrue, "false": impl.CoreFalse, "self": impl.CoreSelf}[e.Text]; kind > 0 {
		return impl.Core{Kind: kind}, most
	}
	return impl.Core{Kind: impl.CoreClass, Number: slices.Index(w.classes, e.Text)}, most
}

func (w surroundings) lowerControl(e impl.Expr) (impl.Core, int, bool) {
	control, ok := controls[e.Text]
	if !ok || isSuper(e) || len(e.Kids) != len(control.blocks) {
		return impl.Core{}, 0, false
	}
	kids := map[rune]impl.Core{'n': core("nil"), 't': core("true"), 'f': core("false")}
	most := w.free
	for i, kid := range e.Kids {
		var slots int
		if control.blocks[i] == '-' {
			kids[rune('0'+i)], slots = w.lower(kid)
		} else if kid.Kind != impl.ExprBlock || kid.Number != int(control.blocks[i]-'0') {
			return impl.Core{}, 0, false
		} else {
			kids[rune('0'+i)], slots = w.write(kid)
		}
		most = max(most, slots)
	}
	node := impl.Core{Kind: control.kind, Number: control.number}
	if control.kind == impl.CoreCount {
		node.Number = w.free
	}
	for _, place := range control.kids {
		node.Kids = append(node.Kids, kids[place])
	}
	return node, most, true
}

// write lowers a block that is written where it stands.
func (w surroundings) write(e impl.Expr) (impl.Core, int) {
	var first cores
	for i := range e.Names[e.Number:] {
		first = append(first, impl.Core{Kind: impl.CoreSetVar, Number: w.free + e.Number + i, Kids: coreList("nil")})
	}
	list, most := w.with(e.Names).all(e.Kids, first...)
	if len(e.Kids) == 0 {
		list = append(list, core("nil"))
	}
	return sequenceOf(list), most
}

// routineByWords is the routine of a method.
func (w surroundings) routineByWords(m impl.Method, owner int) impl.Routine {
	body, slots := w.with(slices.Concat(m.Params, m.Temps)).all(m.Body)
	if owner >= 0 && (len(m.Body) == 0 || m.Body[len(m.Body)-1].Kind != impl.ExprReturn) {
		body = append(body, core("self"))
	}
	return impl.Routine{Selector: m.Selector, Owner: owner, Class: m.Class, Params: len(m.Params), Slots: slots, Body: sequenceOf(body)}
}

// systemByWords is the system of a unit without a problem, its limits aside.
func systemByWords(u impl.Unit) impl.System {
	var s impl.System
	w := surroundings{}
	for i, c := range builtinList {
		info := impl.ClassInfo{Name: c, Parent: []int{-1, 0, 1, 2, 2, 0, 0, 0, 0, 0, 0, 0, 0, 0, 0, 0}[i]}
		if i >= 1 && i <= 4 {
			info.Fields = []string{"text"}
		}
		s.Classes, w.classes = append(s.Classes, info), append(w.classes, c)
	}
	for _, c := range u.Classes {
		parent := slices.Index(w.classes, c.Parent)
		s.Classes = append(s.Classes, impl.ClassInfo{Name: c.Name, Parent: parent, Fields: append(slices.Clone(s.Classes[parent].Fields), c.Fields...)})
		w.classes = append(w.classes, c.Name)
	}
	for i, c := range u.Classes {
		for _, m := range c.Methods {
			w.parent, w.fields = s.Classes[16+i].Parent, nil
			if !m.Class {
				w.fields = s.Classes[16+i].Fields
			}
			s.Routines = append(s.Routines, w.routineByWords(m, 16+i))
		}
	}
	w.fields = nil
	s.Main = w.routineByWords(u.Main, -1)
	return s
}

// keepsLimitsByWords says whether all routines of a system keep the limits.
func keepsLimitsByWords(s impl.System) bool {
	for _, r := range routinesOf(&s) {
		if r.Slots > 30 || coreSizeOf(r.Body) > 500 || coreDepthOf(r.Body) > 40 {
			return false
		}
		for _, c := range coreNodesOf(&r.Body) {
			if c.Kind == impl.CoreBlock && c.Depth > 30 {
				return false
			}
		}
	}
	return true
}

// checkLoweredByWords compares what LowerUnit returns with the second reading,
// and reports whether there is a system.
func checkLoweredByWords(t *testing.T, u impl.Unit) bool {
	t.Helper()
	if problem, ok := impl.CheckUnit(u); !ok || problem != "" {
		checkNotLowered(t, u)
		return false
	}
	want := systemByWords(u)
	if !keepsLimitsByWords(want) {
		checkNotLowered(t, u)
		return false
	}
	if got := checkLowered(t, u); !reflect.DeepEqual(plainSystem(got), plainSystem(want)) {
		t.Errorf("LowerUnit of\n%s is\n%s, want\n%s", impl.FormatUnit(u), brief(got), brief(want))
		for i, r := range routinesOf(&got) {
			if other := routinesOf(&want); i < len(other) && shown(r.Body) != shown(other[i].Body) {
				t.Fatalf("the body of %s is\n%s, want\n%s", r.Selector, shown(r.Body), shown(other[i].Body))
			}
		}
	}
	return true
}

// scopeMaker makes expressions whose names are known where they stand.
type scopeMaker struct {
	maker
	readable, assignable []string
	next                 int
	inClass              bool
}

// knowing is the maker inside of a block with new names, of which the first
// ones are parameters. Blocks side by side have the same names.
func (m scopeMaker) knowing(params, temps int) (scopeMaker, []string) {
	var list []string
	for i := range params + temps {
		list = append(list, "v"+strconv.Itoa(m.next+i))
	}
	m.next += params + temps
	m.readable = slices.Concat(m.readable, list)
	m.assignable = slices.Concat(m.assignable, list[params:])
	return m, list
}

// count is mostly small.
func (m scopeMaker) count(most int) int {
	return m.Intn(1 + m.Intn(1+most))
}

func (m scopeMaker) block(levels, params int) impl.Expr {
	inside, list := m.knowing(params, m.count(4))
	e := block(params, strings.Join(list, " "))
	for range m.Intn(4) {
		e.Kids = append(e.Kids, inside.value(levels-1))
	}
	if m.Intn(6) == 0 {
		e.Kids = append(e.Kids, answer(inside.value(levels-1)))
	}
	return e
}

func (m scopeMaker) value(levels int) impl.Expr {
	if levels <= 1 || m.Intn(8) == 0 {
		near := name(m.readable[len(m.readable)-1-m.Intn(8)])
		leaves := exprs{number(m.Intn(1000)), textOf("it's"), symbol("at:put:"), block(0, ""), name(m.pick(m.readable...)), near, near, near}
		return leaves[m.Intn(len(leaves))]
	}
	switch m.Intn(9) {
	case 0:
		if len(m.assignable) > 0 {
			return assign(m.pick(m.assignable...), m.value(levels-1))
		}
	case 1:
		return m.block(levels, m.count(3))
	case 2:
		kids := exprs{m.value(levels - 1)}
		for range 2 + m.Intn(2) {
			kids = append(kids, m.message(levels))
		}
		return cascade(kids...)
	case 3:
		e := m.message(levels)
		e.Kids = append(exprs{m.value(levels - 1)}, e.Kids...)
		if m.inClass && m.Intn(2) == 0 {
			e.Kids[0] = name("super")
		}
		return e
	}
	return m.control(levels)
}

func (m scopeMaker) message(levels int) impl.Expr {
	e := send(m.pick("foo", "+", "foo:", "foo:bar:", "ifTrue:", "to:do:", "whileTrue:", "and:", "ifFalse:ifTrue:"))
	for range impl.CountArgs(e.Text) {
		e.Kids = append(e.Kids, m.value(levels-1))
	}
	return e
}

// control makes a send that is mostly none, as its blocks are right.
func (m scopeMaker) control(levels int) impl.Expr {
	e := send(m.pick("ifTrue:", "ifFalse:", "ifTrue:ifFalse:", "ifFalse:ifTrue:", "and:", "or:", "whileTrue:", "whileFalse:", "to:do:", "to:do:"))
	for _, params := range controls[e.Text].blocks {
		if params == '-' || m.Intn(30) == 0 {
			e.Kids = append(e.Kids, m.value(levels-1))
			continue
		}
		n := int(params - '0')
		if m.Intn(30) == 0 {
			n = 1 - n
		}
		e.Kids = append(e.Kids, m.block(levels, n))
	}
	return e
}

// body makes a method.
func (m scopeMaker) body(selector string) impl.Method {
	inside, params := m.knowing(impl.CountArgs(selector), 0)
	e := inside.block(2+m.Intn(5), 0)
	made := impl.Method{Selector: selector, Params: params, Temps: e.Names, Body: e.Kids}
	for _, node := range nodesOf(&impl.Expr{Kids: made.Body}) {
		if m.Intn(400) == 0 && node.Kind == impl.ExprBlock {
			node.Names = append(node.Names, strings.Fields(names("w", m.Intn(40)))...)
		}
	}
	return made
}

func (m scopeMaker) unit() impl.Unit {
	var made impl.Unit
	parents := slices.Clone(extendable)
	fields := map[string][]string{}
	m.readable = slices.Concat(builtinList, strings.Fields("self nil true false"))
	for i := range m.Intn(5) {
		s := "C" + strconv.Itoa(i)
		one := class(s, m.pick(parents...), strings.Join(strings.Fields("f" + s + " g" + s)[:m.Intn(3)], " "))
		parents, m.readable = append(parents, s), append(m.readable, s)
		fields[s] = slices.Concat(fields[one.Parent], one.Fields)
		made.Classes = append(made.Classes, one)
	}
	for i := range made.Classes {
		c := &made.Classes[i]
		for _, s := range []string{"m", "+", "at:put:", "a:b:c:d:"}[:m.Intn(5)] {
			inside := m
			inside.inClass = true
			isClass := m.Intn(3) == 0
			if !isClass {
				inside.readable = slices.Concat(m.readable, fields[c.Name], fields[c.Name])
				inside.assignable = fields[c.Name]
			}
			one := inside.body(s)
			one.Class = isClass
			c.Methods = append(c.Methods, one)
		}
	}
	main := m.body("m")
	main.Selector = "main"
	made.Main = main
	return made
}

// TestLowerMadeUnits compares made units with the second reading.
func TestLowerMadeUnits(t *testing.T) {
	m := scopeMaker{maker: maker{rand.New(rand.NewSource(9))}}
	counts, kinds := map[string]int{}, map[int]int{}
	for range 3000 {
		u := m.unit()
		switch problem, ok := impl.CheckUnit(u); {
		case !ok || problem != "":
			counts["problem"]++
			checkNotLowered(t, u)
		case checkLoweredByWords(t, u):
			counts["system"]++
			s, _ := impl.LowerUnit(u)
			for _, r := range routinesOf(&s) {
				for _, c := range coreNodesOf(&r.Body) {
					kinds[c.Kind]++
				}
			}
		default:
			counts["limit"]++
		}
	}
	if counts["system"] < 2000 || counts["problem"] < 100 || counts["limit"] < 30 {
		t.Error(counts)
	}
	for kind := 1; kind <= 21; kind++ {
		if kinds[kind] < 1000 {
			t.Errorf("there are %d nodes of the kind %d", kinds[kind], kind)
		}
	}
}

// span is how many slots a level has, of which the first ones are parameters.
type span struct {
	params, slots int
}

// isNodeByWords says by the words of the document whether a node is right, with
// the levels around it, the innermost one first.
func isNodeByWords(c impl.Core, levels []span, classes int, isMessage bool) bool {
	args, many := impl.CountArgs(c.Text), math.MaxInt
	exists := c.Depth >= 0 && c.Depth < len(levels) && c.Number >= 0 && c.Number < levels[c.Depth].slots
	isVariable := exists && c.Number >= levels[c.Depth].params
	noText, noNumber, noDepth := c.Text == "", c.Number == 0, c.Depth == 0
	isClass := c.Number >= 0 && c.Number < classes
	isText := len(c.Text) <= 40 && !strings.ContainsFunc(c.Text, func(r rune) bool { return r < ' ' || r > '~' })
	nothing := noText && noNumber && noDepth
	type rule struct {
		fields      bool
		least, most int
	}
	rules := map[int]rule{
		impl.CoreInt: {noText && noDepth && c.Number >= 0 && c.Number <= 999999999, 0, 0}, impl.CoreText: {noNumber && noDepth && isText, 0, 0}, impl.CoreSymbol: {noNumber && noDepth && args >= 0, 0, 0},
		impl.CoreNil: {nothing, 0, 0}, impl.CoreTrue: {nothing, 0, 0}, impl.CoreFalse: {nothing, 0, 0}, impl.CoreSelf: {nothing, 0, 0},
		impl.CoreVar: {noText && exists, 0, 0}, impl.CoreSetVar: {noText && isVariable, 1, 1},
		impl.CoreField: {noNumber && noDepth && impl.IsName(c.Text), 0, 0}, impl.CoreSetField: {noNumber && noDepth && impl.IsName(c.Text), 1, 1},
		impl.CoreClass: {noText && noDepth && isClass, 0, 0}, impl.CoreSend: {noNumber && noDepth && args >= 0, args + 1, args + 1}, impl.CoreSuper: {noDepth && isClass && args >= 0, args, args},
		impl.CoreCascade: {nothing, 2, many}, impl.CoreBlock: {noText && c.Number >= 0 && c.Number <= c.Depth && c.Depth <= 30, 1, 1}, impl.CoreSeq: {nothing, 2, many}, impl.CoreReturn: {nothing, 1, 1},
		impl.CoreIf: {nothing, 3, 3}, impl.CoreWhile: {noText && noDepth && (c.Number == 0 || c.Number == 1), 2, 2}, impl.CoreCount: {noText && noDepth && isVariable, 3, 3},
	}
	r, isKind := rules[c.Kind]
	if isMessage {
		isKind = c.Kind == impl.CoreSend
		r.least, r.most = args, args
	}
	if c.Kind == impl.CoreBlock {
		levels = append([]span{{c.Number, c.Depth}}, levels...)
	}
	for i, kid := range c.Kids {
		isKind = isKind && isNodeByWords(kid, levels, classes, c.Kind == impl.CoreCascade && i > 0)
	}
	return isKind && r.fields && len(c.Kids) >= r.least && len(c.Kids) <= r.most
}

// areClassesByWords says by the words of the document whether classes are those
// of a system.
func areClassesByWords(list []impl.ClassInfo) bool {
	if len(list) < 16 || len(list) > 24 {
		return false
	}
	builtin := systemByWords(impl.Unit{}).Classes
	for i, c := range list {
		if i < 16 {
			if classText(c) != classText(builtin[i]) || len(c.Fields) != len(builtin[i].Fields) {
				return false
			}
			continue
		}
		isFree := !slices.ContainsFunc(list[:i], func(o impl.ClassInfo) bool { return o.Name == c.Name })
		if !impl.IsName(c.Name) || !isFree || c.Parent < 0 || c.Parent >= i || c.Parent >= 5 && c.Parent <= 15 || len(c.Fields) > 8 {
			return false
		}
		for j, f := range list[c.Parent].Fields {
			if j >= len(c.Fields) || c.Fields[j] != f {
				return false
			}
		}
		for j, f := range c.Fields {
			if !impl.IsName(f) || slices.Index(c.Fields, f) < j {
				return false
			}
		}
	}
	return true
}

// isSystemByWords says by the words of the document whether a system is one.
func isSystemByWords(s impl.System) bool {
	if !areClassesByWords(s.Classes) || len(s.Routines) > 96 || !keepsLimitsByWords(s) {
		return false
	}
	if m := s.Main; m.Selector != "main" || m.Owner != -1 || m.Class || m.Params != 0 {
		return false
	}
	for i, r := range s.Routines {
		isTwice := slices.ContainsFunc(s.Routines[:i], func(o impl.Routine) bool { return o.Selector == r.Selector && o.Owner == r.Owner && o.Class == r.Class })
		if isTwice || !impl.IsSelector(r.Selector) || impl.CountArgs(r.Selector) != r.Params || r.Owner < 16 || r.Owner >= len(s.Classes) {
			return false
		}
	}
	for _, r := range routinesOf(&s) {
		if r.Params > r.Slots || !isNodeByWords(r.Body, []span{{r.Params, r.Slots}}, len(s.Classes), false) {
			return false
		}
	}
	return true
}

// checkSystems compares IsSystem of changes of a sample, each of which is made
// alone.
func checkSystems(t *testing.T, want bool, changes ...func(*impl.System)) {
	t.Helper()
	for i, change := range changes {
		s := sampleSystem(t)
		change(&s)
		if got := impl.IsSystem(s); got != want {
			t.Errorf("IsSystem behind the change %d = %v: %s", i, got, brief(s))
		}
		if isSystemByWords(s) != want {
			t.Errorf("the change %d makes a system by the words: %v", i, !want)
		}
	}
}

// sampleSystem has the classes A to D with the indices 16 to 19, a routine with
// one parameter and two variables as the first one, and nodes of all kinds.
func sampleSystem(t *testing.T) impl.System {
	t.Helper()
	return lowered(t, `
		class A extends Error fields a b
		method at: p | r q | r := p. a := text. ^ [:s | | u | u := s. [r := u]. b := u. super foo: r. p < q. super foo]
		classmethod new ^ super new a; b: 3; yourself
		end
		class B extends A fields c
		method + p | r | p ifTrue: [| x | r := x]. [r and: [p]] whileTrue: [c := nil]. 1 to: p do: [:i | r := i. #at:put:. 'text'. true. false. A]. [r] whileFalse: []
		method at: p | r | [:s :u | | v | p to: u do: [:w | v := w]]
		end
		class C extends Object fields c end
		class D extends B method yourself end
		main | x y | x := [:z | y := z. ^ D new foo: self; bar]. ^ x value: 3 value: y`)
}

func TestSystems(t *testing.T) {
	checkSystems(t, true, func(*impl.System) {})
	empty := impl.Routine{Selector: "main", Owner: -1, Body: core("nil")}
	checkSystems(t, true, func(s *impl.System) { s.Classes, s.Routines, s.Main = s.Classes[:16], nil, empty }, func(s *impl.System) { s.Routines = nil }, func(s *impl.System) { s.Routines = s.Routines[:1] }, func(s *impl.System) { slices.Reverse(s.Routines) })
	checkSystems(t, false, func(s *impl.System) { *s = impl.System{} }, func(s *impl.System) { s.Main = impl.Routine{} }, func(s *impl.System) { s.Classes = nil }, func(s *impl.System) { s.Classes, s.Routines = nil, nil },
		func(s *impl.System) { s.Classes, s.Routines, s.Main = s.Classes[:15], nil, empty }, func(s *impl.System) { s.Classes = s.Classes[:16] }, func(s *impl.System) { s.Routines[2] = impl.Routine{} }, func(s *impl.System) { s.Routines = append(s.Routines, impl.Routine{}) })
}

func TestSystemsWithOtherBuiltinClasses(t *testing.T) {
	for k := range 16 {
		checkSystems(t, false,
			func(s *impl.System) { s.Classes[k].Name = "Q" }, func(s *impl.System) { s.Classes[k].Name = "" }, func(s *impl.System) { s.Classes[k].Name += "s" }, func(s *impl.System) { s.Classes[k].Name = s.Classes[(k+1)%16].Name },
			func(s *impl.System) { s.Classes[k].Parent++ }, func(s *impl.System) { s.Classes[k].Parent-- }, func(s *impl.System) { s.Classes[k].Parent = 16 }, func(s *impl.System) { s.Classes[k].Parent = k },
			func(s *impl.System) { s.Classes[k].Fields = append(s.Classes[k].Fields, "f") }, func(s *impl.System) { s.Classes[k].Fields = []string{"f"} }, func(s *impl.System) { s.Classes[k].Fields = []string{""} },
			func(s *impl.System) { s.Classes[k] = s.Classes[(k+1)%16] }, func(s *impl.System) { s.Classes = slices.Delete(s.Classes, k, k+1) }, func(s *impl.System) { s.Classes[k], s.Classes[16] = s.Classes[16], s.Classes[k] })
		hasText := k >= 1 && k <= 4
		checkSystems(t, !hasText, func(s *impl.System) { s.Classes[k].Fields = nil }, func(s *impl.System) { s.Classes[k].Fields = []string{} })
		checkSystems(t, hasText, func(s *impl.System) { s.Classes[k].Fields = []string{"text"} })
	}
}

func TestSystemsWithOtherClasses(t *testing.T) {
	for _, s := range slices.Concat(builtinList, words, strings.Fields("A B at: + 1a a_b"), []string{"", " ", "a b", "E" + longName, "é"}) {
		checkSystems(t, false, func(y *impl.System) { y.Classes[18].Name = s })
	}
	// Only the names of earlier classes are in use.
	for _, s := range []string{"Q", "self", "super", "nil", "true", "false", "text", "c", "a", "D1", "at", "object", "C", longName} {
		checkSystems(t, true, func(y *impl.System) { y.Classes[18].Name = s })
	}
	checkSystems(t, false, func(s *impl.System) { s.Classes[18].Name = "D" }, func(s *impl.System) { s.Classes[19].Name = "A" }, func(s *impl.System) { s.Classes[16].Name = "B" })
	for _, k := range []int{math.MinInt, -2, -1, 5, 6, 7, 8, 9, 10, 11, 12, 13, 14, 15, 18, 19, 20, 24, math.MaxInt} {
		checkSystems(t, false, func(s *impl.System) { s.Classes[18].Parent, s.Classes[18].Fields = k, nil }, func(s *impl.System) { s.Classes[18].Parent, s.Classes[18].Fields = k, []string{"text"} })
	}
	for k, fields := range map[int]string{0: "", 1: "text", 2: "text", 3: "text", 4: "text", 16: "text a b", 17: "text a b c"} {
		list := strings.Fields(fields)
		checkSystems(t, true, func(s *impl.System) { s.Classes[18].Parent, s.Classes[18].Fields = k, list }, func(s *impl.System) { s.Classes[18].Parent, s.Classes[18].Fields = k, append(list, "f") },
			func(s *impl.System) {
				s.Classes[18].Parent, s.Classes[18].Fields = k, append(list, strings.Fields("d e f g h i j k")[:8-len(list)]...)
			})
		checkSystems(t, false, func(s *impl.System) {
			s.Classes[18].Parent, s.Classes[18].Fields = k, append(list, strings.Fields("d e f g h i j k l")[:9-len(list)]...)
		},
			func(s *impl.System) { s.Classes[18].Parent, s.Classes[18].Fields = k, append(list, "f", "f") }, func(s *impl.System) { s.Classes[18].Parent, s.Classes[18].Fields = k, append(list, "") },
			func(s *impl.System) { s.Classes[18].Parent, s.Classes[18].Fields = k, append(list, "f", "end") }, func(s *impl.System) { s.Classes[18].Parent, s.Classes[18].Fields = k, append(list, "f:", "g") })
		for i := range list {
			checkSystems(t, false, func(s *impl.System) { s.Classes[18].Parent, s.Classes[18].Fields = k, list[:i] }, func(s *impl.System) { s.Classes[18].Parent, s.Classes[18].Fields = k, list[i+1:] },
				func(s *impl.System) {
					s.Classes[18].Parent, s.Classes[18].Fields = k, append(slices.Clone(list), list[i])
				}, func(s *impl.System) {
					s.Classes[18].Parent, s.Classes[18].Fields = k, slices.Insert(slices.Clone(list), i, "f")
				})
		}
	}
	checkSystems(t, true, func(s *impl.System) { s.Classes[18].Fields = strings.Fields("self nil text A Object c") }, func(s *impl.System) { s.Classes[18].Fields = nil })
	checkSystems(t, false, func(s *impl.System) { s.Classes[16].Fields = strings.Fields("text b a") }, func(s *impl.System) { s.Classes[19].Fields = nil }, func(s *impl.System) { s.Classes[17].Fields = strings.Fields("text a") }, func(s *impl.System) { s.Classes[16].Fields = strings.Fields("a b text") })
	for count := range 12 {
		checkSystems(t, count <= 4, func(s *impl.System) {
			for i := range count {
				s.Classes = append(s.Classes, impl.ClassInfo{Name: "M" + strconv.Itoa(i)})
			}
		})
	}
}

func TestSystemsWithOtherMains(t *testing.T) {
	for _, s := range []string{"", "Main", "mains", "main:", "m", "+", "at:put:", "end"} {
		checkSystems(t, false, func(y *impl.System) { y.Main.Selector = s })
	}
	for _, k := range []int{math.MinInt, -2, 0, 1, 15, 16, 19, 20, math.MaxInt} {
		checkSystems(t, false, func(s *impl.System) { s.Main.Owner = k })
	}
	checkSystems(t, false, func(s *impl.System) { s.Main.Class = true }, func(s *impl.System) { s.Main = s.Routines[0] }, func(s *impl.System) { s.Routines = append(s.Routines, s.Main) })
	for _, n := range []int{math.MinInt, -1, 1, 2, 3, math.MaxInt} {
		checkSystems(t, false, func(s *impl.System) { s.Main.Params = n }, func(s *impl.System) { s.Main.Params, s.Main.Body = n, core("nil") }, func(s *impl.System) { s.Main.Params, s.Main.Slots, s.Main.Body = n, n, core("nil") })
	}
	for slots := -3; slots <= 33; slots++ {
		checkSystems(t, slots >= 0 && slots <= 30, func(s *impl.System) { s.Main.Slots, s.Main.Body = slots, core("nil") })
		checkSystems(t, slots >= 1 && slots <= 30, func(s *impl.System) { s.Routines[0].Slots, s.Routines[0].Body = slots, core("(var 0 0)") })
	}
	checkSystems(t, false, func(s *impl.System) { s.Main.Slots, s.Main.Body = math.MinInt, core("nil") }, func(s *impl.System) { s.Main.Slots = math.MaxInt }, func(s *impl.System) { s.Main.Slots = 1 })
	checkSystems(t, false, func(s *impl.System) { s.Routines[0].Slots, s.Routines[0].Body = math.MinInt, core("nil") }, func(s *impl.System) { s.Routines[0].Slots = math.MaxInt }, func(s *impl.System) { s.Routines[0].Slots = 2 })
}

func TestSystemsWithOtherRoutines(t *testing.T) {
	selectors := append(strings.Fields("m size class: at:put: a:b: a:b:c: a:b:c:d: main: ifTrue: super nil"), operators...)
	for _, s := range selectors {
		args := impl.CountArgs(s)
		for _, params := range []int{math.MinInt, -1, 0, 1, 2, 3, 4, 5, math.MaxInt} {
			checkSystems(t, params == args, func(y *impl.System) {
				y.Routines[3] = impl.Routine{Selector: s, Owner: 18, Params: params, Slots: 6, Body: core("(setvar 0 5 nil)")}
			})
		}
	}
	for _, s := range append([]string{"", "a b", "at:put", ":", "a::", "a:b:c:d:e:", "++", "1", "é", "a" + longName}, words...) {
		for params := -1; params <= 5; params++ {
			checkSystems(t, false, func(y *impl.System) {
				y.Routines[3] = impl.Routine{Selector: s, Owner: 18, Params: params, Slots: 6, Body: core("nil")}
			})
		}
	}
	for k := range 24 {
		isClass := k >= 16 && k <= 19
		checkSystems(t, isClass, func(s *impl.System) { s.Routines[1].Owner = k }, func(s *impl.System) { s.Routines[2].Owner = k })
		checkSystems(t, isClass && k != 17, func(s *impl.System) { s.Routines[0].Owner = k })
		checkSystems(t, isClass && k != 16, func(s *impl.System) { s.Routines[3].Owner = k })
	}
	checkSystems(t, true, func(s *impl.System) { s.Routines[3].Owner, s.Routines[3].Class = 16, true }, func(s *impl.System) { s.Routines[3].Class = true }, func(s *impl.System) { s.Routines[2].Selector, s.Routines[2].Owner = "at:", 18 })
	checkSystems(t, false, func(s *impl.System) { s.Routines[2].Selector = "at:" }, func(s *impl.System) { s.Routines[2].Selector, s.Routines[2].Owner = "at:", 16 }, func(s *impl.System) { s.Routines = append(s.Routines, s.Routines[4]) }, func(s *impl.System) { s.Routines = append(s.Routines, s.Routines[0]) },
		func(s *impl.System) { s.Routines[1] = s.Routines[4] }, func(s *impl.System) { s.Routines[1].Owner = -1 }, func(s *impl.System) { s.Routines[1].Owner = math.MinInt }, func(s *impl.System) { s.Routines[1].Owner = math.MaxInt })
	for _, count := range []int{90, 91, 92, 100, 1000} {
		checkSystems(t, count <= 91, func(s *impl.System) {
			for i := range count {
				s.Routines = append(s.Routines, impl.Routine{Selector: "m" + strconv.Itoa(i/6), Owner: 16 + i%6/2, Class: i%2 == 0, Body: core("nil")})
			}
		})
	}
	// Each routine has limits and a body of its own.
	for i := range 5 {
		checkSystems(t, false, func(s *impl.System) { s.Routines[i].Body = core("(var 0 9)") }, func(s *impl.System) { s.Routines[i].Body = impl.Core{} }, func(s *impl.System) { s.Routines[i].Slots = 31 }, func(s *impl.System) { s.Routines[i].Params++ }, func(s *impl.System) { s.Routines[i].Params-- })
	}
}

// checkRight compares IsSystem with nodes as body of a routine whose first slot
// of three is a parameter, of a class 16 that is the last one, and inside.
func checkRight(t *testing.T, want bool, list ...impl.Core) {
	t.Helper()
	for _, c := range list {
		for _, place := range []string{"HERE", "(return HERE)", "(seq nil HERE)", "(seq HERE 3 self)", "(send foo:bar: nil 3 HERE)", "(super 0 + HERE)", "(cascade HERE (send foo) (send bar))", "(cascade nil (send foo: HERE))", "(cascade nil (send foo) (send a:b: 3 HERE) (send bar))",
			"(if nil HERE nil)", "(while 1 HERE nil)", "(while 0 3 HERE)", "(setvar 0 2 HERE)", "(setfield f HERE)", "(send foo HERE)", "(if HERE nil nil)", "(if nil nil HERE)", "(count 1 HERE nil nil)", "(count 2 3 HERE nil)", "(count 1 3 4 HERE)"} {
			s := impl.System{Classes: systemByWords(impl.Unit{}).Classes, Main: impl.Routine{Selector: "main", Owner: -1, Body: core("nil")}}
			s.Classes = append(s.Classes, impl.ClassInfo{Name: "A"})
			body := core(strings.ReplaceAll(place, "HERE", "#here"))
			for _, node := range coreNodesOf(&body) {
				if node.Text == "here" {
					*node = c
				}
			}
			s.Routines = []impl.Routine{{Selector: "m:", Owner: 16, Params: 1, Slots: 3, Body: body}}
			inClass := copyOfSystem(s)
			inClass.Routines[0].Class = true
			for _, y := range []impl.System{s, inClass} {
				if got := impl.IsSystem(y); got != want || isSystemByWords(y) != want {
					t.Errorf("IsSystem of a system with %s = %v, want %v", shown(body), got, want)
				}
			}
		}
	}
}

// rightNodes has nodes that are right for checkRight, of all kinds.
const rightNodes = `
	0 7 999999999 '' 'a' 'class' #at:put: #+ #class: #a nil true false self (var 0 0) (var 0 1) (var 0 2) (setvar 0 1 nil) (setvar 0 2 (var 0 0)) (field f) (field text) (field self) (field Object) (setfield f nil) (setfield nil (field f))
	(class 0) (class 5) (class 15) (class 16) (send foo nil) (send + 1 2) (send at:put: 1 2 3) (send a:b:c:d: 1 2 3 4 5) (send ifTrue: 1 (block 0 0 nil)) (super 0 foo) (super 16 foo) (super 7 + 1) (super 2 a:b:c:d: 1 2 3 4)
	(cascade 1 (send foo)) (cascade 1 (send foo) (send + 2) (send a:b: 1 2)) (cascade (cascade 1 (send foo)) (send foo)) (block 0 0 nil) (block 0 30 nil) (block 30 30 nil) (block 1 1 (var 0 0)) (block 1 2 (setvar 0 1 nil))
	(block 1 3 (seq (var 0 0) (var 0 2) (setvar 0 1 3) (setvar 0 2 4) (var 1 0) (var 1 2) (setvar 1 1 3) (setvar 1 2 3))) (block 0 0 (var 1 2)) (block 2 2 (block 0 1 (seq (setvar 0 0 nil) (var 1 1) (var 2 2) (setvar 2 1 nil) (count 0 1 2 nil))))
	(block 1 2 (count 1 (var 0 0) (var 1 0) (var 0 1))) (seq 1 2) (seq 1 2 3 4 5) (seq (seq 1 2) (seq 3 4)) (return nil) (return (return self)) (send foo (return nil)) (if 1 2 3) (if (return 1) (if 1 2 3) nil) (while 0 1 2) (while 1 true nil)
	(count 1 1 2 nil) (count 2 1 2 (var 0 2)) (count 1 1 2 (count 1 3 4 (var 0 1)))`

// wrongNodes has nodes that are not right, each for one reason.
const wrongNodes = `
	-1 1000000000 (text é) (text abcdefghijklmnopqrstuvwxyzabcdefghijklmno) #end #at:put #a:b:c:d:e: #++ #1 #: (var 0 -1) (var 0 3) (var 0 30) (var 1 0) (var -1 0) (var 2 0) (setvar 0 0 nil) (setvar 0 3 nil) (setvar 0 -1 nil) (setvar 1 1 nil) (setvar -1 1 nil)
	(field end) (field a:) (field +) (field 1a) (field abcdefghijklmnopqrstu) (setfield end nil) (setfield a: nil) (class -1) (class 17) (class 24) (send end nil) (send at:put nil) (send foo) (send foo 1 2) (send + 1) (send + 1 2 3) (send a:b: 1 2) (send a:b: 1 2 3 4) (send at:put: 1)
	(super -1 foo) (super 17 foo) (super 0 end) (super 0 foo 1) (super 0 + ) (super 0 + 1 2) (super 0 a:b: 1) (super 0 a:b: 1 2 3) (super 0 a:b:c:d:e: 1 2 3 4 5) (cascade) (cascade 1) (cascade 1 2) (cascade 1 (send foo) nil) (cascade 1 (send foo 2)) (cascade 1 (send +)) (cascade 1 (send + 1 2))
	(cascade 1 (send end)) (cascade 1 (send foo) (send a:b: 1)) (cascade 1 (super 0 foo)) (cascade 1 (symbol foo)) (cascade 1 (seq 1 2)) (cascade (send foo) (send foo)) (cascade 1 (send foo) (send + (var 0 3))) (cascade (var 0 3) (send foo)) (cascade 1 (block 0 0 nil))
	(block -1 0 nil) (block 0 -1 nil) (block 0 31 nil) (block 31 31 nil) (block 1 0 nil) (block 30 29 nil) (block 0 0) (block 0 0 nil nil) (block 1 1 (setvar 0 0 nil)) (block 0 0 (var 0 0)) (block 1 1 (var 0 1)) (block 0 5 (var 1 3)) (block 0 5 (setvar 1 0 nil)) (block 0 5 (var 2 0)) (block 2 3 (setvar 0 1 nil))
	(block 0 0 (setvar 1 3 nil)) (block 0 9 (block 1 1 (setvar 1 9 nil))) (block 2 9 (block 0 0 (setvar 1 1 nil))) (block 2 2 (count 1 1 2 nil)) (block 1 1 (count 1 1 2 nil)) (block 0 0 (count 1 1 2 nil)) (seq (block 0 2 nil) (var 1 0)) (seq (block 0 9 nil) (var 0 5)) (send + (block 0 9 (var 0 8)) (var 0 8))
	(seq) (seq 1) (seq 1 (var 0 3)) (return) (return 1 2) (if) (if 1) (if 1 2) (if 1 2 3 4) (while 2 1 2) (while -1 1 2) (while 1) (while 1 1) (while 0 1) (while 1 1 2 3) (count 0 1 2 3) (count 3 1 2 3) (count -1 1 2 3) (count 1) (count 1 1 2) (count 1 1 2 3 4)
	(setvar 0 1) (setvar 0 1 1 2) (setfield f) (setfield f 1 2) (int 1 2) (text a 1) (symbol a 1) (nil nil) (true nil) (false nil) (self nil) (var 0 1 nil) (field f nil) (class 1 nil)`

func TestSystemsWithNodesOfAllKinds(t *testing.T) {
	right := coreList(rightNodes)
	checkRight(t, true, right...)
	checkRight(t, true, impl.Core{Kind: impl.CoreText, Text: "it's (a) ~ text"}, impl.Core{Kind: impl.CoreText, Text: strings.Repeat(" ", 40)})
	checkRight(t, false, coreList(wrongNodes)...)
	checkRight(t, false, impl.Core{}, impl.Core{Kind: -1}, impl.Core{Kind: 22}, impl.Core{Kind: math.MaxInt}, impl.Core{Kind: math.MinInt}, impl.Core{Kind: 22, Kids: coreList("1 2")},
		impl.Core{Kind: impl.CoreText, Text: "a\n"}, impl.Core{Kind: impl.CoreText, Text: "\x7f"}, impl.Core{Kind: impl.CoreText, Text: "\x1f"}, impl.Core{Kind: impl.CoreText, Text: "\x80"}, impl.Core{Kind: impl.CoreText, Text: strings.Repeat(" ", 41)},
		impl.Core{Kind: impl.CoreSymbol}, impl.Core{Kind: impl.CoreSend}, impl.Core{Kind: impl.CoreSend, Kids: coreList("nil")}, impl.Core{Kind: impl.CoreSuper}, impl.Core{Kind: impl.CoreField}, impl.Core{Kind: impl.CoreSetField, Kids: coreList("nil")},
		impl.Core{Kind: impl.CoreInt, Number: math.MinInt}, impl.Core{Kind: impl.CoreInt, Number: math.MaxInt}, impl.Core{Kind: impl.CoreVar, Depth: math.MinInt}, impl.Core{Kind: impl.CoreVar, Depth: math.MaxInt}, impl.Core{Kind: impl.CoreVar, Number: math.MinInt}, impl.Core{Kind: impl.CoreVar, Number: math.MaxInt},
		impl.Core{Kind: impl.CoreBlock, Depth: math.MinInt, Number: math.MinInt, Kids: coreList("nil")}, impl.Core{Kind: impl.CoreBlock, Depth: math.MaxInt, Kids: coreList("nil")}, impl.Core{Kind: impl.CoreClass, Number: math.MaxInt})
	for _, c := range right {
		for _, field := range "tnd" {
			if strings.ContainsRune(coreForms[c.Kind].fields, field) {
				continue
			}
			for _, n := range []int{-1, 1, 16, math.MinInt, math.MaxInt} {
				changed := c
				switch field {
				case 't':
					changed.Text = []string{"a", " ", "at:put:", "+", "class"}[n&3]
				case 'n':
					changed.Number = n
				case 'd':
					changed.Depth = n
				}
				checkRight(t, false, changed)
			}
		}
	}
}

// changesOfCores are changes of one node.
func changesOfCores() []func(*impl.Core) {
	changes := []func(*impl.Core){
		func(c *impl.Core) { c.Kids = c.Kids[:max(0, len(c.Kids)-1)] },
		func(c *impl.Core) { c.Kids = c.Kids[min(1, len(c.Kids)):] },
		func(c *impl.Core) { c.Kids = nil },
		func(c *impl.Core) { slices.Reverse(c.Kids) },
		func(c *impl.Core) { c.Kids = slices.Repeat(c.Kids, 2) },
		func(c *impl.Core) { c.Kids = append(c.Kids, core("nil")) },
		func(c *impl.Core) { c.Kids = append(coreList("(var 1 0)"), c.Kids...) },
		func(c *impl.Core) { c.Kids = append(c.Kids, core("(send foo)")) },
		func(c *impl.Core) { c.Kids = append(c.Kids, core("(send foo nil)")) },
		func(c *impl.Core) { c.Number, c.Depth = c.Depth, c.Number },
		func(c *impl.Core) { c.Number++ }, func(c *impl.Core) { c.Number-- }, func(c *impl.Core) { c.Depth++ }, func(c *impl.Core) { c.Depth-- },
	}
	for kind := -1; kind <= 23; kind++ {
		changes = append(changes, func(c *impl.Core) { c.Kind = kind })
	}
	for _, s := range []string{"", "a", "end", "+", "at:", "at:put:", "a b", strings.Repeat("a", 21), strings.Repeat("a", 41)} {
		changes = append(changes, func(c *impl.Core) { c.Text = s })
	}
	for _, n := range []int{-1, 0, 1, 2, 3, 4, 5, 15, 16, 19, 20, 21, 30, 31, 999999999, 1000000000} {
		changes = append(changes, func(c *impl.Core) { c.Number = n }, func(c *impl.Core) { c.Depth = n }, func(c *impl.Core) { c.Number, c.Depth = n, n })
	}
	for _, s := range []string{"nil", "(var 0 0)", "(var 1 0)", "(var 2 1)", "(setvar 0 1 nil)", "(setvar 1 1 nil)", "(send foo nil)", "(send foo)", "(block 0 2 nil)", "(count 1 1 2 nil)"} {
		changes = append(changes,
			func(c *impl.Core) { *c = core(s) },
			func(c *impl.Core) { *c = impl.Core{Kind: impl.CoreSeq, Kids: cores{core(s), *c}} },
			func(c *impl.Core) { *c = impl.Core{Kind: impl.CoreBlock, Number: 1, Depth: 2, Kids: cores{*c}} })
	}
	return changes
}

// TestChangedSystems changes all nodes of a sample, and compares IsSystem with
// the words of the document.
func TestChangedSystems(t *testing.T) {
	sample := sampleSystem(t)
	counts := map[bool]int{}
	for i, r := range routinesOf(&sample) {
		for at := range coreNodesOf(&r.Body) {
			for _, change := range changesOfCores() {
				s := copyOfSystem(sample)
				change(coreNodesOf(&routinesOf(&s)[i].Body)[at])
				want := isSystemByWords(s)
				counts[want]++
				if got := impl.IsSystem(s); got != want {
					t.Errorf("IsSystem of a system with %s = %v", shown(routinesOf(&s)[i].Body), got)
				}
			}
		}
	}
	if counts[true] < 1000 || counts[false] < 1000 {
		t.Error(counts)
	}
}

// chain is a node with this number of nodes around it.
func chain(n int, c impl.Core) impl.Core {
	for range n {
		c = impl.Core{Kind: impl.CoreReturn, Kids: cores{c}}
	}
	return c
}

func TestSystemsAtTheLimits(t *testing.T) {
	flat := func(n int) impl.Core { return impl.Core{Kind: impl.CoreSeq, Kids: slices.Repeat(coreList("3"), n-1)} }
	inBlocks := func(n int) impl.Core {
		return core("(seq (block 0 0 " + shown(flat(n/2)) + ") (block 0 0 " + shown(flat(n-n/2-3)) + "))")
	}
	right := []impl.Core{flat(500), inBlocks(500), chain(39, core("nil")), chain(38, core("(seq 1 2)")), core("(seq " + shown(chain(38, core("1"))) + " " + shown(chain(38, core("1"))) + ")"), core("(block 0 30 nil)"),
		chain(37, core("(block 0 0 (cascade 1 (send foo)))")), chain(37, core("(cascade nil (send foo: 1))"))}
	wrong := []impl.Core{flat(501), inBlocks(501), chain(40, core("nil")), chain(39, core("(seq 1 2)")), core("(seq 1 " + shown(chain(39, core("1"))) + " 2)"), core("(block 0 31 nil)"),
		chain(38, core("(block 0 0 (cascade 1 (send foo)))")), chain(38, core("(cascade nil (send foo: 1))")), flat(100000), chain(100000, core("nil")), chain(2000000, core("nil"))}
	for _, c := range right {
		checkSystems(t, true, func(s *impl.System) { s.Main.Body = c }, func(s *impl.System) { s.Routines[0].Body = c }, func(s *impl.System) { s.Routines[4].Body = c })
	}
	for _, c := range wrong[:len(wrong)-2] {
		checkSystems(t, false, func(s *impl.System) { s.Main.Body = c }, func(s *impl.System) { s.Routines[0].Body = c }, func(s *impl.System) { s.Routines[4].Body = c })
	}
	ring := make(cores, 2)
	for i := range ring {
		ring[i] = impl.Core{Kind: impl.CoreReturn, Kids: ring[1-i : 2-i]}
	}
	wide := make(cores, 3)
	for i := range wide {
		wide[i] = impl.Core{Kind: impl.CoreSeq, Kids: wide}
	}
	shared := core("nil")
	for range 60 {
		shared = impl.Core{Kind: impl.CoreSeq, Kids: cores{shared, shared}}
	}
	for _, c := range append(wrong, ring[0], wide[0], shared) {
		for i := range 3 {
			s := sampleSystem(t)
			routinesOf(&s)[i].Body = c
			if impl.IsSystem(s) {
				t.Errorf("a system with %s is one", brief(c.Kind))
			}
		}
	}
}

// roomyCore returns a tree whose lists have spare room with something in it.
func roomyCore(c impl.Core) impl.Core {
	kids := append(slices.Clone(c.Kids), core("nil"), core("(send foo)"))
	for i := range c.Kids {
		kids[i] = roomyCore(kids[i])
	}
	c.Kids = kids[:len(c.Kids)]
	return c
}

func roomySystem(s impl.System) impl.System {
	s = copyOfSystem(s)
	for i := range s.Classes {
		s.Classes[i].Fields = roomyList(s.Classes[i].Fields, "spare", "room")
	}
	for _, r := range routinesOf(&s) {
		r.Body = roomyCore(r.Body)
	}
	s.Classes = roomyList(s.Classes, impl.ClassInfo{Name: "Spare"})
	s.Routines = roomyList(s.Routines, impl.Routine{Selector: "spare"})
	return s
}

// wholeOfCore returns a copy of a tree with all that its lists have room for.
func wholeOfCore(c impl.Core) impl.Core {
	kids := slices.Clone(c.Kids[:cap(c.Kids)])
	for i := range kids {
		kids[i] = wholeOfCore(kids[i])
	}
	c.Kids = kids
	return c
}

func wholeOfSystem(s impl.System) impl.System {
	s.Classes, s.Routines = slices.Clone(s.Classes[:cap(s.Classes)]), slices.Clone(s.Routines[:cap(s.Routines)])
	for i := range s.Classes {
		s.Classes[i].Fields = slices.Clone(s.Classes[i].Fields[:cap(s.Classes[i].Fields)])
	}
	for _, r := range routinesOf(&s) {
		r.Body = wholeOfCore(r.Body)
	}
	return s
}

func TestSystemsAreNotModified(t *testing.T) {
	list := []impl.System{sampleSystem(t), {}}
	for _, change := range []func(*impl.System){
		func(s *impl.System) { s.Main.Body = core("(var 0 7)") }, func(s *impl.System) { s.Classes[18].Parent = 5 }, func(s *impl.System) { s.Routines = append(s.Routines, s.Routines[4]) }, func(s *impl.System) { s.Main.Body = chain(50, core("nil")) },
		func(s *impl.System) { s.Classes = s.Classes[:3] }, func(s *impl.System) { s.Routines[3].Slots = 99 }, func(s *impl.System) { s.Classes[17].Fields = strings.Fields("text b a c d") },
	} {
		s := sampleSystem(t)
		change(&s)
		list = append(list, s)
	}
	for i, s := range list {
		s = roomySystem(s)
		before := wholeOfSystem(s)
		first, second := impl.IsSystem(s), impl.IsSystem(s)
		if !reflect.DeepEqual(wholeOfSystem(s), before) || first != (i == 0) || second != first {
			t.Errorf("%s is modified: %v and %v", brief(before), first, second)
		}
	}
}

func TestLoweredUnitsAreNotModified(t *testing.T) {
	large := unit(mainOf("a", slices.Repeat(exprs{send("ifTrue:", number(1), block(0, "b c d e f g h i j k l m n o p q r s t"))}, 20)...), class("A", "Object", "z", method("m", "", "", name("z"))))
	for i, u := range []impl.Unit{sampleChecked(t), large, sampleUnit(), {}, unit(mainOf("a", name("b")), class("A", "Error", "x")), unit(mainOf("", block(0, strings.Join(strings.Fields(names("a", 31)), " ")))), withMethod(method("a:b:", "x y", "z", deep(30), wide(400)))} {
		u = roomyUnit(u)
		before := wholeOfUnit(u)
		first, ok := impl.LowerUnit(u)
		second, fine := impl.LowerUnit(u)
		if !reflect.DeepEqual(wholeOfUnit(u), before) || ok != (i == 0) || ok != fine || !reflect.DeepEqual(plainSystem(first), plainSystem(second)) {
			t.Errorf("%s is modified: %v and %v", brief(before), ok, fine)
		}
	}
}

// placesOfSystem returns the places in memory of all elements that the lists of
// a system have room for.
func placesOfSystem(s *impl.System) []any {
	places := slices.Concat(placesOf(s.Classes), placesOf(s.Routines))
	for i := range s.Classes {
		places = slices.Concat(places, placesOf(s.Classes[i].Fields))
	}
	for _, r := range routinesOf(s) {
		for _, c := range coreNodesOf(&r.Body) {
			places = slices.Concat(places, placesOf(c.Kids))
		}
	}
	return places
}

func TestSystemsAreNew(t *testing.T) {
	for _, source := range []string{
		"main", "class A extends Error fields a b end class B extends A end class C extends A fields c end class D extends C end class E extends Exception end main | a | a",
		impl.FormatUnit(sampleChecked(t)),
		"class A extends Object fields a b c d method m: p | q r | a ifTrue: [| s t | s. t] ifFalse: [b]. [c] whileTrue: [d]. p to: q do: [:i | | j k | [:l | l. j] foo; bar: i baz: k; + r. super foo: i]. ^ [[]] end class B extends A method n method o end main | a | a := [a]. a foo. a and: [a or: [a]]",
	} {
		u := parsed(t, source)
		first, second := checkLowered(t, u), checkLowered(t, u)
		want := copyOfSystem(second)
		met := map[any]bool{}
		all := slices.Concat(placesOfSystem(&first), placesOfSystem(&second), spacesOfUnit(&u))
		for _, place := range all {
			if met[place] {
				t.Errorf("two lists of the systems and the unit of %q share memory", source)
			}
			met[place] = true
		}
		before := wholeOfUnit(u)
		for _, r := range routinesOf(&first) {
			for _, c := range slices.Backward(coreNodesOf(&r.Body)) {
				clear(c.Kids[:cap(c.Kids)])
			}
		}
		for _, c := range first.Classes {
			clear(c.Fields[:cap(c.Fields)])
		}
		clear(first.Classes[:cap(first.Classes)])
		clear(first.Routines[:cap(first.Routines)])
		if !reflect.DeepEqual(second, want) || !reflect.DeepEqual(wholeOfUnit(u), before) {
			t.Errorf("another system of %q, or the unit, is changed", source)
		}
		if third := checkLowered(t, u); !reflect.DeepEqual(plainSystem(third), plainSystem(want)) {
			t.Errorf("the third system of %q is another one", source)
		}
	}
}
