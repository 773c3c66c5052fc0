package tests

import (
	"fmt"
	"math/rand"
	"reflect"
	"slices"
	"strings"
	"testing"

	"loop.example/g03108/impl"
)

func method(selector, params, temps string, body ...impl.Expr) impl.Method {
	return impl.Method{Selector: selector, Params: strings.Fields(params), Temps: strings.Fields(temps), Body: body}
}

func classMethod(selector, params, temps string, body ...impl.Expr) impl.Method {
	m := method(selector, params, temps, body...)
	m.Class = true
	return m
}

func mainOf(temps string, body ...impl.Expr) impl.Method {
	return method("main", "", temps, body...)
}

func class(name, parent, fields string, methods ...impl.Method) impl.ClassDef {
	return impl.ClassDef{Name: name, Parent: parent, Fields: strings.Fields(fields), Methods: methods}
}

func unit(main impl.Method, classes ...impl.ClassDef) impl.Unit {
	return impl.Unit{Classes: classes, Main: main}
}

// withMethod is a unit with this method between two others.
func withMethod(m impl.Method) impl.Unit {
	return unit(mainOf(""), class("A", "Object", ""), class("B", "A", "x", method("a", "", "", answer(name("x"))), m, method("b", "", "")))
}

// sampleUnit has what a unit can have, by names and selectors of argsOf alone.
func sampleUnit() impl.Unit {
	return unit(
		mainOf("a b", assign("a", send("size", name("x"))), answer(name("a"))),
		class("a", "b", "x t",
			method("at:put:", "a b", "t", send("at:put:", name("x"), name("a"), name("b")), block(1, "x", name("x")), answer(name("t"))),
			classMethod("+", "x", "", cascade(name("x"), send("size"), send("+", number(1)))),
			method("size", "", "")),
		class("b", "a", ""),
		class("x", "x", "a",
			method("at:", "x", "a b", textOf("it's"))))
}

func copyOfMethod(m impl.Method) impl.Method {
	m.Params, m.Temps, m.Body = slices.Clone(m.Params), slices.Clone(m.Temps), copyOf(block(0, "", m.Body...)).Kids
	return m
}

func copyOfUnit(u impl.Unit) impl.Unit {
	u.Main = copyOfMethod(u.Main)
	u.Classes = slices.Clone(u.Classes)
	for i := range u.Classes {
		c := &u.Classes[i]
		c.Fields, c.Methods = slices.Clone(c.Fields), slices.Clone(c.Methods)
		for j := range c.Methods {
			c.Methods[j] = copyOfMethod(c.Methods[j])
		}
	}
	return u
}

// nilOf makes an empty list nil, so that reflection finds equal values.
func nilOf[E any](list []E) []E {
	if len(list) == 0 {
		return nil
	}
	return list
}

func plainMethod(m impl.Method) impl.Method {
	m.Params, m.Temps, m.Body = nilOf(m.Params), nilOf(m.Temps), withoutEmpty(block(0, "", m.Body...)).Kids
	return m
}

func plainUnit(u impl.Unit) impl.Unit {
	u = copyOfUnit(u)
	u.Main, u.Classes = plainMethod(u.Main), nilOf(u.Classes)
	for i := range u.Classes {
		c := &u.Classes[i]
		c.Fields, c.Methods = nilOf(c.Fields), nilOf(c.Methods)
		for j := range c.Methods {
			c.Methods[j] = plainMethod(c.Methods[j])
		}
	}
	return u
}

// brief keeps messages about large values short.
func brief(v any) string {
	s := fmt.Sprint(v)
	return s[:min(len(s), 600)]
}

// checkMethods tries methods alone and in a unit.
func checkMethods(t *testing.T, want bool, list ...impl.Method) {
	t.Helper()
	for _, m := range list {
		if got := impl.IsMethod(m); got != want {
			t.Errorf("IsMethod of %.100q with %d, %d and %d parts = %v", m.Selector, len(m.Params), len(m.Temps), len(m.Body), got)
		}
		if got := impl.IsUnit(withMethod(m)); got != want {
			t.Errorf("IsUnit of a class with %.100q with %d, %d and %d parts = %v", m.Selector, len(m.Params), len(m.Temps), len(m.Body), got)
		}
	}
}

func checkUnits(t *testing.T, want bool, list ...impl.Unit) {
	t.Helper()
	for i, u := range list {
		if got := impl.IsUnit(u); got != want {
			t.Errorf("IsUnit of unit %d, with %d classes and %q, = %v", i, len(u.Classes), u.Main.Selector, got)
		}
	}
}

// checkEqualUnits compares two units both ways, and each of them with itself.
func checkEqualUnits(t *testing.T, what string, a, b impl.Unit, want bool) {
	t.Helper()
	if impl.EqualUnits(a, b) != want || impl.EqualUnits(b, a) != want {
		t.Errorf("EqualUnits of %s is not %v", what, want)
	}
	if !impl.EqualUnits(a, a) || !impl.EqualUnits(b, b) {
		t.Errorf("%s: a unit is not equal to itself", what)
	}
}

// checkEqualMethods compares two methods, alone, in a class and as main ones.
func checkEqualMethods(t *testing.T, what string, a, b impl.Method, want bool) {
	t.Helper()
	if impl.EqualMethods(a, b) != want || impl.EqualMethods(b, a) != want {
		t.Errorf("EqualMethods of %s is not %v", what, want)
	}
	if !impl.EqualMethods(a, a) || !impl.EqualMethods(b, b) {
		t.Errorf("%s: a method is not equal to itself", what)
	}
	checkEqualUnits(t, "units with "+what, withMethod(a), withMethod(b), want)
	checkEqualUnits(t, "units with as Main "+what, unit(a), unit(b), want)
}

func checkMethod(t *testing.T, source string, want impl.Method) {
	t.Helper()
	got, ok := impl.ParseMethod(source)
	if !ok || !reflect.DeepEqual(plainMethod(got), plainMethod(want)) {
		t.Errorf("ParseMethod(%.300q) = %s, %v, want %s", source, brief(got), ok, brief(want))
	}
}

func checkNoMethod(t *testing.T, sources ...string) {
	t.Helper()
	for _, s := range sources {
		if got, ok := impl.ParseMethod(s); ok || !reflect.DeepEqual(plainMethod(got), impl.Method{}) {
			t.Errorf("ParseMethod(%.300q) = %s, %v", s, brief(got), ok)
		}
	}
}

func checkUnit(t *testing.T, source string, want impl.Unit) {
	t.Helper()
	got, ok := impl.ParseUnit(source)
	if !ok || !reflect.DeepEqual(plainUnit(got), plainUnit(want)) {
		t.Errorf("ParseUnit(%.300q) = %s, %v, want %s", source, brief(got), ok, brief(want))
	}
}

func checkNoUnit(t *testing.T, sources ...string) {
	t.Helper()
	for _, s := range sources {
		if got, ok := impl.ParseUnit(s); ok || !reflect.DeepEqual(plainUnit(got), impl.Unit{}) {
			t.Errorf("ParseUnit(%.300q) = %s, %v", s, brief(got), ok)
		}
	}
}

// inClass is the source of a unit with the source of a method between others,
// the first of which ends with a return, so that no more of it can follow.
func inClass(s string) string {
	return "class A extends Object end class B extends A fields x method a ^ x. " + s + " method b end main"
}

// checkMethodAndUnit reads a method alone and in a unit.
func checkMethodAndUnit(t *testing.T, source string, want impl.Method) {
	t.Helper()
	checkMethod(t, source, want)
	checkUnit(t, inClass(source), withMethod(want))
}

// checkNoMethodNorUnit has sources that are no methods, nor a part of a class.
func checkNoMethodNorUnit(t *testing.T, sources ...string) {
	t.Helper()
	checkNoMethod(t, sources...)
	for _, s := range sources {
		checkNoUnit(t, inClass(s))
	}
}

func TestUnitLimits(t *testing.T) {
	if impl.MaxClasses != 8 || impl.MaxMethods != 12 || impl.MaxFields != 4 {
		t.Error(impl.MaxClasses, impl.MaxMethods, impl.MaxFields)
	}
}

func TestMethodsAndTheirSelectors(t *testing.T) {
	selectors := map[string]int{
		"a": 0, "size": 0, "Main": 0, "self": 0, longName: 0, "at:": 1, "class:": 1, "main:": 1, longName + ":": 1, "at:put:": 2, "a:a:": 2,
		"class:end:": 2, "a:b:c:": 3, "a:b:c:d:": 4, "": -1, "a b": -1, "a:b": -1, "1": -1, ":": -1, "++": -1, "#a": -1, "a:b:c:d:e:": -1,
		"a:b:c:d:e:f:": -1, tooLongName: -1, "a:" + tooLongName + ":": -1, "é": -1, strings.Repeat("a", 1000000): -1,
	}
	for _, s := range operators {
		selectors[s] = 1
	}
	for _, s := range append(words, markList...) {
		selectors[s] = -1
	}
	for s, args := range selectors {
		for n := range 8 {
			params := strings.Repeat("x ", n)
			for _, temps := range []string{"", "t", "x t u v w x y z"} {
				checkMethods(t, n == args, method(s, params, temps), classMethod(s, params, temps), method(s, params, temps, number(1), answer(name("x"))))
			}
		}
	}
}

func TestMethodsAndTheirNames(t *testing.T) {
	checkMethods(t, true,
		method("a:b:c:d:", "a a a a", "a a a"), method("+", "self", "nil super true"), method("at:put:", longName+" Z9", longName),
		method("a", "", strings.Repeat("a ", 100000)), classMethod("a:b:", "x y", "z"), method("size", "", "size size"))
	for _, bad := range append([]string{"", "1", "1a", "a b", "a:", "+", ":", "|", "é", "#a", "'a'", tooLongName, "a\x00"}, words...) {
		for at := range 4 {
			m := method("a:b:c:d:", "a b c d", "e f g h")
			m.Params[at] = bad
			n := method("a:b:c:d:", "a b c d", "e f g h")
			n.Temps[at] = bad
			k := method("size", "", "e f g h")
			k.Temps[at] = bad
			main := mainOf("e f g h")
			main.Temps[at] = bad
			checkMethods(t, false, m, n, k)
			checkUnits(t, false, unit(main))
		}
	}
}

// TestMethodsAndTheirBodies tries what may stand in a block, also as the body
// of Main.
func TestMethodsAndTheirBodies(t *testing.T) {
	x, r := name("x"), answer(name("x"))
	for want, bodies := range map[bool][]exprs{
		true: {
			nil, {}, {x}, {x, x}, {r}, {x, r}, {x, x, r}, {sampleTree()}, {sampleTree(), answer(sampleTree())}, {assign("x", block(0, "", r)), x},
			{cascade(x, send("a"), send("+", x)), number(0)}, {block(2, "a a", x, r), symbol("+"), textOf("")},
			wide(299).Kids, wide(300).Kids, {deep(24)}, {answer(deep(23))}, {x, wide(297), x}, {doubled(8, x)}, {doubled(7, x), doubled(7, x), wide(45)},
		},
		false: {
			{r, x}, {r, r}, {x, r, x}, {answer(r)}, {assign("x", r)}, {send("size", r)}, {block(0, "", r, x)}, {send("a")}, {x, send("a")},
			{send("size")}, {name("end")}, {number(-1)}, {number(1000000000)}, {impl.Expr{}}, {x, {Kind: 77}}, {block(3, "a b")}, {block(-1, "a b")}, {cascade(x, send("a"))},
			{textOf("é")}, {symbol("class")}, {impl.Expr{Kind: impl.ExprReturn}}, {impl.Expr{Kind: impl.ExprName, Text: "x", Number: 1}},
			wide(301).Kids, wide(100000).Kids, {deep(25)}, {answer(deep(24))}, {x, wide(298), x}, {deep(300000)},
			{doubled(9, x)}, {doubled(60, x)}, {doubled(200, x)}, {doubled(7, x), doubled(7, x), wide(46)}, {endless(1, "x")}, {x, endless(3, "x"), x},
		},
	} {
		for _, body := range bodies {
			checkMethods(t, want, method("a", "", "", body...), method("+", "x", "", body...), classMethod("at:put:", "x y", "z", body...))
			checkUnits(t, want, unit(mainOf("", body...)), unit(mainOf("x y", body...), class("A", "Object", "")))
		}
	}
}

func TestMainMethods(t *testing.T) {
	x := name("x")
	checkUnits(t, true,
		unit(mainOf("")), unit(mainOf("x")), unit(mainOf("x y x", x, answer(x))), unit(impl.Method{Selector: "main"}),
		unit(impl.Method{Selector: "main", Params: []string{}, Temps: []string{}, Body: exprs{}}), impl.Unit{Classes: classList(0), Main: mainOf("")})
	for _, s := range append([]string{"", "Main", "MAIN", "mai", "mains", "main:", " main", "main ", "a", "+", "at:put:", "class"}, operators...) {
		checkUnits(t, false, unit(method(s, "", "")), unit(method(s, strings.Repeat("x ", max(0, impl.CountArgs(s))), "")))
	}
	for _, params := range []string{"x", "x y", "x y z u v", "end"} {
		checkUnits(t, false, unit(method("main", params, "")), unit(method("main", params, "t", x)))
	}
	main := mainOf("x", x)
	main.Params = []string{""}
	checkUnits(t, false, impl.Unit{}, unit(impl.Method{}), unit(main), unit(classMethod("main", "", "")), unit(classMethod("main", "", "x", x)),
		unit(impl.Method{}, class("A", "Object", "")))
	checkMethods(t, false, mainOf(""), mainOf("x", x), classMethod("main", "", ""), method("main", "x", ""), impl.Method{})
}

// classList is a list of n classes, methodList one of n methods.
func classList(n int) []impl.ClassDef {
	return slices.Repeat([]impl.ClassDef{class("A", "Object", "x", method("a", "", ""))}, n)
}

func methodList(n int) []impl.Method {
	return slices.Repeat([]impl.Method{method("a", "", "")}, n)
}

func TestClassesOfUnits(t *testing.T) {
	for n := range 30 {
		fields := strings.Repeat("x ", n)
		checkUnits(t, n <= 8, unit(mainOf(""), classList(n)...))
		for at := range 3 {
			u, v, w := unit(mainOf(""), classList(3)...), unit(mainOf(""), classList(3)...), unit(mainOf(""), classList(3)...)
			u.Classes[at].Fields = strings.Fields(fields)
			v.Classes[at].Methods = methodList(n)
			checkUnits(t, n <= 4, u)
			checkUnits(t, n <= 12, v)
			w.Classes[at].Fields, w.Classes[at].Methods = strings.Fields(fields), methodList(n)
			checkUnits(t, n <= 4, w)
		}
	}
	full := unit(mainOf(""), slices.Repeat([]impl.ClassDef{class("A", "Object", "a b c d", methodList(12)...)}, 8)...)
	checkUnits(t, true, sampleUnit(), full,
		unit(mainOf(""), class("A", "A", "")), unit(mainOf(""), class("self", "nil", "true super")), unit(mainOf(""), class("Object", "Missing", "Object A A A")),
		unit(mainOf(""), class(longName, longName, longName), class(longName, "x", "")))
	checkUnits(t, false, unit(mainOf(""), classList(100000)...), unit(mainOf(""), class("A", "B", strings.Repeat("a ", 100000))),
		unit(mainOf(""), class("A", "B", "", methodList(100000)...)), unit(mainOf(""), impl.ClassDef{}), unit(mainOf(""), class("A", "B", ""), impl.ClassDef{}))
	full.Main.Selector = "a"
	checkUnits(t, false, full)
}

func TestNamesOfClasses(t *testing.T) {
	for _, bad := range append([]string{"", "1", "1a", "a b", "a:", "+", ":", "é", "#a", "'a'", tooLongName, "a\x00"}, words...) {
		for at := range 3 {
			u, v := unit(mainOf(""), classList(3)...), unit(mainOf(""), classList(3)...)
			u.Classes[at].Name, v.Classes[at].Parent = bad, bad
			checkUnits(t, false, u, v)
			for field := range 4 {
				w := unit(mainOf(""), classList(3)...)
				w.Classes[at].Fields = strings.Fields("a b c d")
				w.Classes[at].Fields[field] = bad
				checkUnits(t, false, w)
			}
		}
	}
}

// TestMethodsAtAllPlaces has one method that is not valid, or the main one, at
// each place of a unit.
func TestMethodsAtAllPlaces(t *testing.T) {
	for _, bad := range []impl.Method{{}, mainOf(""), method("a", "x", ""), method("+", "", ""), method("a", "", "end"), method("a", "", "", send("a"))} {
		for at := range 8 {
			for place := range 12 {
				u := unit(mainOf(""), classList(8)...)
				u.Classes[at].Methods = methodList(12)
				checkUnits(t, true, u)
				u.Classes[at].Methods[place] = bad
				checkUnits(t, false, u)
			}
		}
	}
}

// isMethodByWords and isUnitByWords say by the words of the document whether a
// value with the names and selectors of argsOf is valid.
func isMethodByWords(m impl.Method) bool {
	args, isSelector := argsOf[m.Selector]
	return isSelector && args == len(m.Params) && isTree(blockExpr(m), aStatement)
}

func blockExpr(m impl.Method) impl.Expr {
	e := block(len(m.Params), "", m.Body...)
	e.Names = slices.Concat(m.Params, m.Temps)
	return e
}

func isUnitByWords(u impl.Unit) bool {
	valid := len(u.Classes) <= 8 && u.Main.Selector == "main" && !u.Main.Class && len(u.Main.Params) == 0 && isTree(blockExpr(u.Main), aStatement)
	for _, c := range u.Classes {
		valid = valid && len(c.Fields) <= 4 && len(c.Methods) <= 12
		for _, s := range append([]string{c.Name, c.Parent}, c.Fields...) {
			valid = valid && isTree(name(s), aValue)
		}
		for _, m := range c.Methods {
			valid = valid && isMethodByWords(m)
		}
	}
	return valid
}

// changesOfNames are changes of a list of names.
func changesOfNames() []func([]string) []string {
	return []func([]string) []string{
		func(list []string) []string { return list[:max(0, len(list)-1)] },
		func(list []string) []string { return list[min(1, len(list)):] },
		func(list []string) []string { return append(list, "a") },
		func(list []string) []string { return append([]string{"b"}, list...) },
		func(list []string) []string { return append(list, "end") },
		func(list []string) []string { return append([]string{""}, list...) },
		func(list []string) []string { slices.Reverse(list); return list },
		func(list []string) []string { return append(list, list...) },
		func([]string) []string { return nil },
		func([]string) []string { return strings.Fields("a b x t") },
		func([]string) []string { return strings.Fields("a b x t a") },
	}
}

// changesOfMethods are changes of one method, which all make it another one but
// those that leave out or part what is not there.
func changesOfMethods() []func(*impl.Method) {
	changes := []func(*impl.Method){
		func(m *impl.Method) { m.Class = !m.Class },
		func(m *impl.Method) { m.Params, m.Temps = m.Temps, m.Params },
		func(m *impl.Method) { m.Params, m.Temps = append(m.Params, m.Temps...), nil },
		func(m *impl.Method) { m.Params, m.Temps = nil, append(m.Params, m.Temps...) },
		func(m *impl.Method) { m.Body = m.Body[:max(0, len(m.Body)-1)] },
		func(m *impl.Method) { m.Body = m.Body[min(1, len(m.Body)):] },
		func(m *impl.Method) { m.Body = append(m.Body, m.Body...) },
		func(m *impl.Method) { m.Body = append(exprs{name("x")}, m.Body...) },
		func(m *impl.Method) { m.Body = append(m.Body, answer(name("x"))) },
		func(m *impl.Method) { m.Body = append(m.Body, send("size")) },
		func(m *impl.Method) { slices.Reverse(m.Body) },
		func(m *impl.Method) { m.Body = nil },
	}
	for _, s := range []string{"", "a", "b", "main", "end", "+", "at:", "at:put:", "a b"} {
		changes = append(changes, func(m *impl.Method) { m.Selector = s })
	}
	for _, change := range changesOfNames() {
		changes = append(changes,
			func(m *impl.Method) { m.Params = change(m.Params) },
			func(m *impl.Method) { m.Temps = change(m.Temps) })
	}
	for at := range 6 {
		for _, change := range changesOfNodes() {
			changes = append(changes, func(m *impl.Method) {
				all := block(0, "", m.Body...)
				if nodes := nodesOf(&all); at+1 < len(nodes) {
					change(nodes[at+1])
				}
			})
		}
	}
	return changes
}

func changesOfClasses() []func(*impl.ClassDef) {
	changes := []func(*impl.ClassDef){
		func(c *impl.ClassDef) { c.Name, c.Parent = c.Parent, c.Name },
		func(c *impl.ClassDef) { c.Methods = c.Methods[:max(0, len(c.Methods)-1)] },
		func(c *impl.ClassDef) { c.Methods = c.Methods[min(1, len(c.Methods)):] },
		func(c *impl.ClassDef) { c.Methods = append(c.Methods, method("a", "", "")) },
		func(c *impl.ClassDef) { c.Methods = append([]impl.Method{mainOf("")}, c.Methods...) },
		func(c *impl.ClassDef) { c.Methods = slices.Repeat(c.Methods, 4) },
		func(c *impl.ClassDef) { c.Methods = slices.Repeat(c.Methods, 5) },
		func(c *impl.ClassDef) { slices.Reverse(c.Methods) },
		func(c *impl.ClassDef) { c.Methods = nil },
		func(c *impl.ClassDef) { *c = impl.ClassDef{} },
	}
	for _, s := range []string{"", "a", "b", "x", "end", "+", "at:", "a b"} {
		changes = append(changes, func(c *impl.ClassDef) { c.Name = s }, func(c *impl.ClassDef) { c.Parent = s })
	}
	for _, change := range changesOfNames() {
		changes = append(changes, func(c *impl.ClassDef) { c.Fields = change(c.Fields) })
	}
	return changes
}

// changesOfUnits are changes of one part of a unit, wherever it stands.
func changesOfUnits() []func(*impl.Unit) {
	changes := []func(*impl.Unit){
		func(u *impl.Unit) { u.Classes = u.Classes[:max(0, len(u.Classes)-1)] },
		func(u *impl.Unit) { u.Classes = u.Classes[min(1, len(u.Classes)):] },
		func(u *impl.Unit) { u.Classes = append(u.Classes, class("t", "a", "")) },
		func(u *impl.Unit) { u.Classes = append([]impl.ClassDef{class("t", "a", "")}, u.Classes...) },
		func(u *impl.Unit) { u.Classes = slices.Repeat(u.Classes, 2) },
		func(u *impl.Unit) { u.Classes = slices.Repeat(u.Classes, 3) },
		func(u *impl.Unit) { slices.Reverse(u.Classes) },
		func(u *impl.Unit) { u.Classes = nil },
		func(u *impl.Unit) { u.Main = impl.Method{} },
	}
	for _, change := range changesOfMethods() {
		changes = append(changes, func(u *impl.Unit) { change(&u.Main) })
	}
	for at := range 3 {
		for _, change := range changesOfClasses() {
			changes = append(changes, func(u *impl.Unit) { change(&u.Classes[at]) })
		}
		for _, change := range changesOfMethods() {
			for place := range 3 {
				changes = append(changes, func(u *impl.Unit) {
					if place < len(u.Classes[at].Methods) {
						change(&u.Classes[at].Methods[place])
					}
				})
			}
		}
	}
	return changes
}

func TestChangedMethods(t *testing.T) {
	samples := []impl.Method{{}, method("size", "", ""), classMethod("at:put:", "a b", "t", name("x"), answer(name("a"))), mainOf("x", answer(name("x")))}
	for _, m := range samples {
		for _, change := range changesOfMethods() {
			changed := copyOfMethod(m)
			change(&changed)
			if got, want := impl.IsMethod(changed), isMethodByWords(changed); got != want {
				t.Errorf("IsMethod(%v) = %v", changed, got)
			}
			same := reflect.DeepEqual(plainMethod(m), plainMethod(changed))
			checkEqualMethods(t, "a method and its change", m, changed, same)
		}
	}
}

func TestChangedUnits(t *testing.T) {
	u := sampleUnit()
	counts := map[bool]int{}
	for _, change := range changesOfUnits() {
		changed := copyOfUnit(u)
		change(&changed)
		want := isUnitByWords(changed)
		counts[want]++
		checkUnits(t, want, changed)
		checkEqualUnits(t, "a unit and its change", u, changed, reflect.DeepEqual(plainUnit(u), plainUnit(changed)))
	}
	if counts[true] < 500 || counts[false] < 500 {
		t.Error(counts)
	}
}

func TestEqualMethods(t *testing.T) {
	x := name("x")
	for _, m := range []impl.Method{
		{}, mainOf(""), method("a", "", ""), classMethod("at:put:", "x y", "z", x, answer(x)), method("a b", "x x", "", send("a")),
		{Selector: "+", Params: []string{"", "end"}, Body: exprs{{}, {Kind: -1}}}, method("a", "", "", deep(1000)), method("a", "", "", wide(1000)),
	} {
		checkEqualMethods(t, "a method and its copy", m, copyOfMethod(m), true)
	}
	for _, two := range [][2]impl.Method{
		{method("a", "", ""), method("b", "", "")}, {method("a", "", ""), method("A", "", "")}, {method("a", "", ""), {}},
		{method("a", "", ""), classMethod("a", "", "")}, {mainOf("", x), classMethod("main", "", "", x)},
		{method("a", "x", ""), method("a", "", "x")}, {method("a", "x y", ""), method("a", "x", "y")}, {method("a", "x y", ""), method("a", "", "x y")},
		{method("a", "x", "y z"), method("a", "x y", "z")}, {method("a", "x y", ""), method("a", "y x", "")}, {method("a", "", "x y"), method("a", "", "y x")},
		{method("a", "", "x"), method("a", "", "")}, {method("a", "x", ""), method("a", "", "")}, {method("a", "x", "y"), method("a", "y", "x")},
		{method("a", "x", ""), method("a", "x x", "")}, {method("a", "", "x"), method("a", "", "x x")},
		{method("a", "", "", x), method("a", "", "")}, {method("a", "", "", x), method("a", "", "", name("y"))}, {method("a", "", "", x), method("a", "", "", answer(x))},
		{method("a", "", "", x, number(1)), method("a", "", "", number(1), x)}, {method("a", "", "", block(0, "", x)), method("a", "", "", x)},
		{method("a", "", "", x, x), method("a", "", "", x)}, {method("a", "", "", block(0, "a")), method("a", "", "", block(1, "a"))},
		{method("a", "", "", deep(1000)), method("a", "", "", deep(1001))}, {method("a", "", "x"), method("a", "", "", x)},
	} {
		checkEqualMethods(t, "different methods", two[0], two[1], false)
	}
}

// TestEqualMethodsInMemory has values that are equal though they lie otherwise,
// and such as no source has.
func TestEqualMethodsInMemory(t *testing.T) {
	empty := impl.Method{Params: []string{}, Temps: []string{}, Body: exprs{}}
	checkEqualMethods(t, "nil and empty lists", empty, impl.Method{}, true)
	checkEqualMethods(t, "nil and empty lists below", impl.Method{Body: exprs{{Names: []string{}, Kids: exprs{}}}}, impl.Method{Body: exprs{{}}}, true)
	checkEqualUnits(t, "nil and empty lists of classes", impl.Unit{Classes: []impl.ClassDef{}}, impl.Unit{}, true)
	checkEqualUnits(t, "nil and empty lists in classes",
		impl.Unit{Classes: []impl.ClassDef{{Fields: []string{}, Methods: []impl.Method{}}}}, impl.Unit{Classes: []impl.ClassDef{{}}}, true)
	checkEqualUnits(t, "no class and an empty one", impl.Unit{Classes: []impl.ClassDef{{}}}, impl.Unit{}, false)
	body := func(e impl.Expr) impl.Method { return method("a", "", "", e, e) }
	checkEqualMethods(t, "deep bodies", body(deep(300000)), body(deep(300000)), true)
	checkEqualMethods(t, "deep bodies that differ", body(deep(300000)), body(deep(300001)), false)
	checkEqualMethods(t, "shared bodies", body(doubled(200, name("x"))), body(doubled(200, name("x"))), true)
	checkEqualMethods(t, "shared bodies that differ", body(doubled(200, name("x"))), body(doubled(200, name("y"))), false)
	checkEqualMethods(t, "endless bodies", body(endless(2, "x")), body(endless(3, "x")), true)
	checkEqualMethods(t, "endless bodies that differ", body(endless(2, "x")), body(endless(3, "y")), false)
	list := strings.Fields("x y z")
	parted := impl.Method{Params: list[:2], Temps: list[2:]}
	checkEqualMethods(t, "parts of one list", parted, method("", "x y", "z"), true)
	checkEqualMethods(t, "parts of one list that differ", parted, impl.Method{Params: list[:1], Temps: list[1:]}, false)
	shared := methodList(40)
	checkEqualUnits(t, "shared methods", unit(mainOf(""), class("A", "B", "", shared[:3]...)), unit(mainOf(""), class("A", "B", "", shared[7:10]...)), true)
}

func TestEqualUnits(t *testing.T) {
	a, b := class("A", "Object", "x y", method("a", "", ""), method("b", "", "")), class("B", "A", "")
	checkEqualUnits(t, "a unit and its copy", sampleUnit(), copyOfUnit(sampleUnit()), true)
	checkEqualUnits(t, "zero units", impl.Unit{}, impl.Unit{}, true)
	checkEqualUnits(t, "units that are not valid", unit(method("b", "x", "end"), classList(20)...), unit(method("b", "x", "end"), classList(20)...), true)
	for _, two := range [][2]impl.Unit{
		{unit(mainOf(""), a), unit(mainOf(""), b)}, {unit(mainOf(""), a, b), unit(mainOf(""), b, a)}, {unit(mainOf(""), a, b), unit(mainOf(""), a)},
		{unit(mainOf(""), a), unit(mainOf("x"), a)}, {unit(mainOf(""), a), unit(mainOf(""), a, a)}, {unit(mainOf("")), {}}, {unit(mainOf("")), unit(mainOf(""), impl.ClassDef{})},
		{unit(mainOf(""), a), unit(mainOf(""), class("A", "Object", "x y", method("b", "", ""), method("a", "", "")))},
		{unit(mainOf(""), a), unit(mainOf(""), class("A", "Object", "y x", a.Methods...))}, {unit(mainOf(""), a), unit(mainOf(""), class("A", "Object", "x", a.Methods...))},
		{unit(mainOf(""), b), unit(mainOf(""), class("A", "B", ""))}, {unit(mainOf(""), b), unit(mainOf(""), class("B", "Object", ""))},
		{unit(mainOf(""), class("B", "A", "a")), unit(mainOf(""), class("B", "A", "", method("a", "", "")))},
		{unit(mainOf(""), class("B", "A", "", a.Methods[:1]...), b), unit(mainOf(""), b, class("B", "A", "", a.Methods[:1]...))},
		{unit(mainOf(""), classList(1000)...), unit(mainOf(""), classList(1001)...)},
	} {
		checkEqualUnits(t, "different units", two[0], two[1], false)
	}
}

func TestParsePatterns(t *testing.T) {
	x := name("x")
	checkMethodAndUnit(t, "method a", method("a", "", ""))
	checkMethodAndUnit(t, "classmethod a", classMethod("a", "", ""))
	checkMethodAndUnit(t, "method a x", method("a", "", "", x))
	checkMethodAndUnit(t, "method a a a", method("a", "", "", send("a", name("a"))))
	checkMethodAndUnit(t, "method a x := 3", method("a", "", "", assign("x", number(3))))
	checkMethodAndUnit(t, "method a 3", method("a", "", "", number(3)))
	checkMethodAndUnit(t, "method a (x)", method("a", "", "", x))
	checkMethodAndUnit(t, "method a [x]", method("a", "", "", block(0, "", x)))
	checkMethodAndUnit(t, "method a 'end'", method("a", "", "", textOf("end")))
	checkMethodAndUnit(t, "method a #end:", method("a", "", "", symbol("end:")))
	checkMethodAndUnit(t, "method "+longName+" ^ x", method(longName, "", "", answer(x)))
	checkMethodAndUnit(t, "method self ^ x", method("self", "", "", answer(x)))
	for _, s := range operators {
		checkMethodAndUnit(t, "method "+s+" x", method(s, "x", ""))
		checkMethodAndUnit(t, "classmethod "+s+"x ^ x", classMethod(s, "x", "", answer(x)))
		checkMethodAndUnit(t, "method"+s+"x| y |x "+s+" x", method(s, "x", "y", send(s, x, x)))
		checkMethodAndUnit(t, "method "+s+" x x", method(s, "x", "", x))
		checkNoMethodNorUnit(t, "method "+s, "method "+s+" 3", "method "+s+" "+s+" x", "method "+s+" (x)", "method "+s+" x "+s+" y", "method "+s+" k: x", "method a "+s+" x",
			"method x "+s, "method k: "+s+" x", "method k: x "+s+" y", "method "+s+" end", "method "+s+" 'x'", "method #"+s+" x", "method '"+s+"' x")
	}
	checkMethodAndUnit(t, "method k: x", method("k:", "x", ""))
	checkMethodAndUnit(t, "method k:x", method("k:", "x", ""))
	checkMethodAndUnit(t, "method k: x x", method("k:", "x", "", x))
	checkMethodAndUnit(t, "method k: x x at: 3", method("k:", "x", "", send("at:", x, number(3))))
	checkMethodAndUnit(t, "method k: x 3 at: x", method("k:", "x", "", send("at:", number(3), x)))
	checkMethodAndUnit(t, "method a x at: 3 x", method("a", "", "", send("at:", x, send("x", number(3)))))
	checkMethodAndUnit(t, "method k: x l: y", method("k:l:", "x y", ""))
	checkMethodAndUnit(t, "classmethod at: i put: v ^ v", classMethod("at:put:", "i v", "", answer(name("v"))))
	checkMethodAndUnit(t, "method k: x k: x k: x", method("k:k:k:", "x x x", ""))
	checkMethodAndUnit(t, "method a: x b: y c: z d: u ^ x", method("a:b:c:d:", "x y z u", "", answer(x)))
	checkMethodAndUnit(t, "method class: x end: method1", method("class:end:", "x method1", ""))
	checkMethodAndUnit(t, "method main: x", method("main:", "x", ""))
	checkMethodAndUnit(t, "method method: x", method("method:", "x", ""))
	checkMethodAndUnit(t, "method "+longName+": x "+longName+": "+longName, method(longName+":"+longName+":", "x "+longName, ""))
}

func TestParsePatternsThatAreNone(t *testing.T) {
	checkNoMethodNorUnit(t,
		"method a: x b: y c: z d: u e: v", "classmethod a: x b: y c: z d: u e: v f: w", "method a: x b: y c: z d: u e: v f: w g: a h: b ^ x",
		"method", "classmethod", "method ^ x", "method | x | x", "method |", "method .", "method 3", "method (a)", "method [a]", "method ;", "method :a", "method : a", "method a := 3",
		"method 'a'", "method #a", "method #+ x", "method #k: x", "method 'k:' x", "method [", "method ^ a", "method . a",
		"method k:", "method k: 3", "method k: x l:", "method k: l: x", "method k: x l: 3", "method k: x l: (y)", "method k: x + y", "method k: x, y", "method k: x | l: y", "method k: (x)",
		"method k : x", "method k: :x", "method k: 'x'", "method k: #x", "method k: x l: 'y'", "method k:= x", "method k:l: x",
		"method a k: x", "method a + x", "method + x k: y", "method k: x y l: z 3",
		"method a method", "classmethod classmethod a", "method classmethod a", "class method a", "methods a", "Method a", "method: a", "method: x a", "methoda", "classmethod: a",
		"'method' a", "#method: a", "x method a", "x", "^ x", "(method a)", "[method a]", ". method a", "method (method a)", "method [method a]")
	checkNoMethod(t, "", " ", "\"method a\"", "a", "a x", "+ x", "k: x", "x + y", "main", "main x", "end", "class A extends B end", "class A extends B method a end main", "method a end", "method a main",
		"method a method b", "method a classmethod b", "method a end main", "end method a", "fields method a", "method a fields", "method a class", "method a x. method b", "[]", "[x]", "[method a]")
	for _, w := range words {
		checkNoMethodNorUnit(t, "method "+w, "method "+w+" x", "classmethod "+w, "method + "+w, "method k: "+w, "method k: x l: "+w, "method k: "+w+" l: x", "method a | "+w+" |", "method a | x "+w+" |",
			w+" a method", "method a x "+w+" 3", "method a x "+w, "method a ^ "+w, "method a x + "+w, "method a "+w+" := x", "method '"+w+"'")
		checkMethodAndUnit(t, "method "+w+": x "+w+": y", method(w+":"+w+":", "x y", ""))
		checkMethodAndUnit(t, "method "+w+"s '"+w+"'", method(w+"s", "", "", textOf(w)))
		checkMethodAndUnit(t, "method + "+w+"1", method("+", w+"1", ""))
		if w != "method" && w != "classmethod" {
			checkNoMethod(t, w+" a", w+" + x", w+" k: x", w)
			checkNoUnit(t, inClass(w+" a"), inClass(w+" + x"))
		}
		if w != "end" {
			checkNoMethod(t, "method a "+w)
			checkNoUnit(t, "class A extends B method a "+w+" main")
		}
	}
}

// TestParseBodies has bodies that are read like what stands in a block without
// parameters.
func TestParseBodies(t *testing.T) {
	read := 0
	for _, s := range []string{
		"", "||", "| |", "| x |", "| x y z |", "| x x |", "|x|x", "| | x", "||x", "| x | ^ x", "| self nil | ^ self", "\"note\" | x \"note\" | x",
		"x", "x.", "x. y", "x. y.", "x. y. z", "^ x", "^ x.", "^x", "x. ^ y", "x. ^ y.", "x y", "x y. z", "x + y. z", "x at: y. z", "x := y. z := 3. ^ x := z",
		"x a; b", "x a; + y; at: z. ^ x a; b.", "[^ x]. y", "[:a | a]", "[:a | | b | b]", "(x). (y)", "3. 'it''s'. #at:put:. []. x", "^ [^ x.].", "| x | [:x | | y | x]. ^ [| x | x]",
		"|", "| x", "x |", "| x | y |", "| x | | y |", "| x y", "|||", "| 3 |", "| (x) |", "| x. |", "| x, y |", "| :x |", "| x: |", "| x: y |", "| 'x' |", "| #x |", "| x | | x", "x | y |", "x. | y | y",
		"'|' x '|'", "| x '|'", "'|' x |", "'||'", "| + |", "| [] |",
		".", "..", "x..", ". x", "x. . y", "x.. y", "x y..", "^", "^.", "^ ^ x", "^ x..", "^ x. y", "^ x. ^ y", "x ^ y", "(^ x)", "x. ^", "x := ^ y", "x + ^ y", "^ | x | x", "^ x. | y | y", "[^ x. y]",
		"x 3", "x (y)", "(x", "x)", "[x", "x]", "x;", "x; y", "x a;", "(x a); b", "x := ", ":= x", "x + ", "+ x", "x at:", ":x | x", ": x", "x '.' y", "x. '^' y", "'^' x",
		"x a: 1 b: 2 c: 3 d: 4. y", "x a: 1 b: 2 c: 3 d: 4 e: 5. y", "x; y", "{", "'x", "\"x", "1x", tooLongName, longName, "#", "x. 1234567890", "x. 123456789",
	} {
		e, ok := impl.ParseExpr("[" + s + "]")
		for source, m := range map[string]impl.Method{
			"method a ":            method("a", "", ""),
			"method + x ":          method("+", "x", ""),
			"classmethod k: x ":    classMethod("k:", "x", ""),
			"method k: x l: y\n":   method("k:l:", "x y", ""),
			"method self\"note\" ": method("self", "", ""),
		} {
			if !ok || e.Number > 0 {
				checkNoMethodNorUnit(t, source+s)
				checkNoUnit(t, "main "+s)
				continue
			}
			read++
			m.Temps, m.Body = e.Names, e.Kids
			checkMethodAndUnit(t, source+s, m)
			checkUnit(t, "main "+s, unit(mainOf(strings.Join(e.Names, " "), e.Kids...)))
		}
	}
	if read < 100 {
		t.Error("only", read, "bodies are read")
	}
	checkMethodAndUnit(t, "method a | a x | ^ a", method("a", "", "a x", answer(name("a"))))
	checkMethodAndUnit(t, "method + x | x y | ^ x", method("+", "x", "x y", answer(name("x"))))
}

func TestParseClasses(t *testing.T) {
	a := method("a", "", "")
	for s, want := range map[string]impl.ClassDef{
		"class A extends B end":                                         class("A", "B", ""),
		"class A extends B fields end":                                  class("A", "B", ""),
		"class A extends B fields x end":                                class("A", "B", "x"),
		"class A extends B fields x y z u end":                          class("A", "B", "x y z u"),
		"class A extends B fields x x A B end":                          class("A", "B", "x x A B"),
		"class A extends A end":                                         class("A", "A", ""),
		"class self extends nil fields super true end":                  class("self", "nil", "super true"),
		"class A extends B method a end":                                class("A", "B", "", a),
		"class A extends B fields method a end":                         class("A", "B", "", a),
		"class A extends B fields x method a end":                       class("A", "B", "x", a),
		"class A extends B method a method a end":                       class("A", "B", "", a, a),
		"class A extends B method a classmethod a method + x end":       class("A", "B", "", a, classMethod("a", "", ""), method("+", "x", "")),
		"class A extends B method a x. end":                             class("A", "B", "", method("a", "", "", name("x"))),
		"class A extends B method a x method a end":                     class("A", "B", "", method("a", "", "", name("x")), a),
		"class A extends B method a x. method a ^ x. end":               class("A", "B", "", method("a", "", "", name("x")), method("a", "", "", answer(name("x")))),
		"class A extends B method k: x | y | classmethod l: x m: y end": class("A", "B", "", method("k:", "x", "y"), classMethod("l:m:", "x y", "")),
		"class A\nextends\tB\nfields\"note\"x\nend":                     class("A", "B", "x"),
		"class " + longName + " extends " + longName + " end":           class(longName, longName, ""),
	} {
		b := class("B", "Object", "z")
		checkUnit(t, s+" main", unit(mainOf(""), want))
		checkUnit(t, s+" "+s+" main | x | ^ x", unit(mainOf("x", answer(name("x"))), want, want))
		checkUnit(t, "class B extends Object fields z end "+s+" main", unit(mainOf(""), b, want))
		checkUnit(t, s+" class B extends Object fields z end main", unit(mainOf(""), want, b))
		checkNoUnit(t, s, s+" end main", s+" main end", "main "+s, s+" main "+s, "end "+s+" main", s+". main", s+" x main", s+" method a main", s+" fields main", "("+s+") main")
	}
}

func TestParseClassesThatAreNone(t *testing.T) {
	for _, s := range []string{
		"class", "class A", "class A end", "class A B end", "class extends B end", "class A extends end", "class A extends B", "class A extends fields x end", "class A fields x end", "A extends B end",
		"class A extends B C end", "class A B extends C end", "class A extends B extends C end", "class A extends B x end", "class A extends B x fields end", "extends B end", "class class A extends B end",
		"class A extends B fields 3 end", "class A extends B fields x, y end", "class A extends B fields x. end", "class A extends B fields | x | end", "class A extends B fields 'x' end", "class A extends B fields #x end",
		"class A extends B fields x: end", "class A extends B fields x fields y end", "class A extends B fields fields end", "class A extends B fields + end", "class A extends B fields (x) end",
		"class A extends B method end", "class A extends B method a. end", "class A extends B method + x. end", "class A extends B method a fields x end", "class A extends B method a end end", "class A extends B end method a", "class A extends B a end", "class A extends B ^ a end",
		"class A extends B | x | end", "class A extends B method a end method b end", "class A extends B method a main end", "class A extends B class C extends D end end", "class A extends B method a class C extends D end",
		"class A extends B main end", "class A extends B method main end", "class A extends B classmethod main ^ 1 end", "class A extends B end end", "class A extends B fields x x := 3 end",
		"class 3 extends B end", "class A extends 3 end", "class 'A' extends B end", "class A extends 'B' end", "class #A extends B end", "class A extends #B end", "class A: extends B end", "class A extends B: end",
		"class A: B end", "class (A) extends B end", "class A extends (B) end", "class A extends nil: end", "class + extends B end", "class A extends + end", "class: A extends B end", "class A extends: B end",
		"class A extends B end:", "class A extends B fields: x end", "Class A extends B end", "class A Extends B end", "class A extends B Fields x end", "class A extends B END",
		"'class' A extends B end", "class A 'extends' B end", "class A extends B 'fields' x end", "class A extends B 'fields' end", "class A extends B 'end'", "class A extends B 'method' a end",
		"class A extends B 'classmethod' a end", "class A extends B method a 'end'", "class A extends B method a x 'end'", "class A extends B method a x 'method' b end", "class A extends B fields x 'end'",
		"#class: A extends B end", "class A #extends: B end", "class A extends B #end:", "class A extends B #method: a end",
		"class " + tooLongName + " extends B end", "class A extends " + tooLongName + " end", "class A extends B fields " + tooLongName + " end",
	} {
		checkNoUnit(t, s+" main", s, s+" main x", "class B extends Object end "+s+" main", s+" class B extends Object end main")
	}
	for _, w := range words {
		checkNoUnit(t, "class "+w+" extends B end main", "class A extends "+w+" end main", "class A extends B fields x "+w+" 3 end main",
			"class A extends B end "+w+" end main", "class A extends B end main "+w, "class A extends B end main x "+w, w+" main", "main "+w, "main | "+w+" |", "main x "+w+" x")
		if w != "end" {
			checkNoUnit(t, "class A extends B fields x "+w+" end main", "class A extends B method a "+w+" end main")
		}
		if w != "main" {
			checkNoUnit(t, w, w+" | x | x", w+" x", "class A extends B end "+w+" x")
		}
	}
}

func TestParseUnits(t *testing.T) {
	x := name("x")
	checkUnit(t, "main", unit(mainOf("")))
	checkUnit(t, " \n\"note\"main\t", unit(mainOf("")))
	checkUnit(t, "main ||", unit(mainOf("")))
	checkUnit(t, "main x", unit(mainOf("", x)))
	checkUnit(t, "main x.", unit(mainOf("", x)))
	checkUnit(t, "main | x | x := 3. ^ x", unit(mainOf("x", assign("x", number(3)), answer(x))))
	checkUnit(t, "main x main: 3", unit(mainOf("", send("main:", x, number(3)))))
	checkUnit(t, "main 'main'. #main:", unit(mainOf("", textOf("main"), symbol("main:"))))
	checkUnit(t, "class a extends b fields x t\n method at: a put: b\n | t | x at: a put: b. [:x | x]. ^ t\n classmethod + x\n x size; + 1\n method size\n end "+
		"class b extends a end class x extends x fields a method at: x | a b | 'it''s' end main | a b | a := x size. ^ a", sampleUnit())
	checkNoUnit(t, "", " ", "\"main\"", "x", "^ x", "end", "Main", "mains", "mai", "'main'", "'main' x", "#main:", "main:", "main: x", "main := 3", "main + x", "main: x main", "(main)", "[main]", "main.", ". main",
		"x main", "x. main", "main main", "main x main", "main end", "main x end", "main x. end", "end main", "method a", "method a main", "main method a", "method main", "fields x main", "extends A main",
		"main |", "main | x", "main x |", "main | x | | y |", "main :x | x", "main ^ x. y", "main x y 3", "main ; x", "main ^", "| x | main", "main class A extends B end", "main x class A extends B end",
		"class A extends B end", "class A extends B end x", "class A extends B end 'main'", "class A extends B method a end", "class A extends B end end main", "class A extends B end. main")
}

// TestParseUnitLimits has sources that hold as many parts of one kind as a unit
// may have, and one more.
func TestParseUnitLimits(t *testing.T) {
	for n := range 30 {
		classes := strings.Repeat("class A extends Object fields x method a end ", n)
		methods := "class A extends Object " + strings.Repeat("method a ", n) + "end "
		fields := "class A extends Object fields" + strings.Repeat(" x", n) + " end "
		for _, c := range []struct {
			most   int
			source string
			want   impl.Unit
		}{
			{impl.MaxClasses, classes, unit(mainOf("x"), classList(n)...)},
			{impl.MaxMethods, methods, unit(mainOf("x"), class("A", "Object", "", methodList(n)...))},
			{impl.MaxMethods, "class A extends Object end " + methods, unit(mainOf("x"), class("A", "Object", ""), class("A", "Object", "", methodList(n)...))},
			{impl.MaxFields, fields, unit(mainOf("x"), class("A", "Object", strings.Repeat("x ", n)))},
			{impl.MaxFields, fields + fields, unit(mainOf("x"), slices.Repeat([]impl.ClassDef{class("A", "Object", strings.Repeat("x ", n))}, 2)...)},
		} {
			if n <= c.most {
				checkUnit(t, c.source+"main | x |", c.want)
			} else {
				checkNoUnit(t, c.source+"main | x |")
			}
		}
	}
	full := class("A", "Object", "a b c d", methodList(12)...)
	source := "class A extends Object fields a b c d " + strings.Repeat("method a ", 12) + "end "
	checkUnit(t, strings.Repeat(source, 8)+"main", unit(mainOf(""), slices.Repeat([]impl.ClassDef{full}, 8)...))
	checkNoUnit(t, strings.Repeat(source, 9)+"main")
}

// TestParseBodyLimits has bodies that make a block as large or as deep as an
// expression may be, and others that make it larger or deeper.
func TestParseBodyLimits(t *testing.T) {
	x := name("x")
	list := func(n int) string { return strings.Repeat("x. ", n) }
	for _, c := range []struct {
		fits, larger string
		body         exprs
	}{
		{list(299), list(300), wide(300).Kids},
		{list(298) + "x", list(298) + "x a", wide(300).Kids},
		{list(297) + "^ x.", list(298) + "^ x.", append(slices.Clone(wide(298).Kids), answer(x))},
		{"[" + list(298) + "]", "[" + list(299) + "]", exprs{wide(299)}},
		{nested(23, "x := ", "x", ""), nested(24, "x := ", "x", ""), exprs{deep(24)}},
		{"x. " + nested(23, "x := ", "x", ""), "x. " + nested(23, "x := ", "x a", ""), exprs{x, deep(24)}},
		{"^ " + nested(22, "x := ", "x", ""), "^ " + nested(23, "x := ", "x", ""), exprs{answer(deep(23))}},
		{nested(24, "[", "", "]"), nested(25, "[", "", "]"), exprs{nestedBlocks(24)}},
		{"(" + nested(23, "x := ", "x", "") + ")", "(" + nested(24, "x := ", "x", "") + ")", exprs{deep(24)}},
	} {
		names := strings.Repeat("x ", 100)
		for source, m := range map[string]impl.Method{
			"method a ":                         method("a", "", "", c.body...),
			"classmethod k: x l: y ":            classMethod("k:l:", "x y", "", c.body...),
			"method + x | " + names + "| ":      method("+", "x", names, c.body...),
			"method a: x b: y c: z d: u | v | ": method("a:b:c:d:", "x y z u", "v", c.body...),
		} {
			checkMethodAndUnit(t, source+c.fits, m)
			checkNoMethodNorUnit(t, source+c.larger)
			if _, ok := impl.Tokens(inClass(source + c.larger)); !ok {
				t.Error("there are too many tokens")
			}
		}
		checkUnit(t, "main "+c.fits, unit(mainOf("", c.body...)))
		checkNoUnit(t, "main "+c.larger)
	}
	// Each method has limits of its own.
	source := strings.Repeat("method a "+list(150), 2)
	m := method("a", "", "", wide(151).Kids...)
	checkUnit(t, "class A extends B "+source+"end main", unit(mainOf(""), class("A", "B", "", m, m)))
	names := strings.Repeat("a ", 796)
	checkMethod(t, "method a | "+names+"|", method("a", "", names))
	checkUnit(t, "main | "+names+"|", unit(mainOf(names)))
	checkNoMethod(t, "method a | "+names+"a |")
}

func TestParseUnitsWhatTokensRejects(t *testing.T) {
	for _, s := range []string{
		"'a", "\"a", "1a", "1234567890", "#", "#1", "#class", "{", "x / y", `x \ y`, "x ~ y", "x_y", "$", tooLongName, tooLongName + ": x", "'" + strings.Repeat("a", 41) + "'", "'a\nb'", "é", "\x00", "\xff", "x\r", "\"a\"b\"",
	} {
		checkNoMethodNorUnit(t, "method a "+s, s+" method a", "method "+s, "method + x "+s, "method k: x "+s+" l: y", "method a | "+s+" |", "method a ^ "+s)
		checkNoUnit(t, "main "+s, s+" main", "class A extends B "+s+" end main", "class A extends B fields "+s+" end main", "class A extends B end "+s+" main", "class "+s+" extends B end main", "main x. "+s)
	}
	for source, want := range map[string]impl.Unit{"main": unit(mainOf("")), "class A extends B method a end main": unit(mainOf(""), class("A", "B", "", method("a", "", "")))} {
		blanks := strings.Repeat(" ", impl.MaxSource-len(source))
		checkUnit(t, blanks+source, want)
		checkUnit(t, source+blanks, want)
		checkNoUnit(t, blanks+source+" ", " "+source+blanks, source+blanks+"\n")
	}
	atLimit := "method a" + strings.Repeat(" ", impl.MaxSource-8)
	checkMethod(t, atLimit, method("a", "", ""))
	checkNoMethod(t, atLimit+" ", " "+atLimit, strings.Repeat("method a ", 1<<16))
	checkNoUnit(t, strings.Repeat("class ", 700), strings.Repeat("main ", 700), strings.Repeat("class A extends B end ", 1<<16)+"main", strings.Repeat("(", 1<<20))
}

// partReading is a way to read tokens as a part of a unit: the place behind
// them and what they are.
type partReading[P any] struct {
	end  int
	part P
}

func (g grammar) word(at int, s string) bool {
	return at < len(g) && g[at] == wordTok(s)
}

// patterns returns the methods without a body that the tokens may begin.
func (g grammar) patterns(at int) []partReading[impl.Method] {
	var all []partReading[impl.Method]
	if g.kind(at) == impl.TokName {
		all = append(all, partReading[impl.Method]{at + 1, method(g[at].Text, "", "")})
	}
	if g.kind(at) == impl.TokBinary && g.kind(at+1) == impl.TokName {
		all = append(all, partReading[impl.Method]{at + 2, method(g[at].Text, g[at+1].Text, "")})
	}
	selector, params := "", ""
	for ; g.kind(at) == impl.TokKeyword && g.kind(at+1) == impl.TokName; at += 2 {
		selector, params = selector+g[at].Text, params+" "+g[at+1].Text
		all = append(all, partReading[impl.Method]{at + 2, method(selector, params, "")})
	}
	return all
}

// bodies returns what a method without a body becomes by the tokens that follow.
func (g grammar) bodies(head partReading[impl.Method]) []partReading[impl.Method] {
	var all []partReading[impl.Method]
	start := reading{end: head.end, e: block(0, "")}
	for _, r := range append(g.variables(start), start) {
		for _, whole := range g.statements(r) {
			m := head.part
			m.Temps, m.Body = whole.e.Names, whole.e.Kids
			all = append(all, partReading[impl.Method]{whole.end, m})
		}
	}
	return all
}

func (g grammar) methods(at int) []partReading[impl.Method] {
	var all []partReading[impl.Method]
	if !g.word(at, "method") && !g.word(at, "classmethod") {
		return nil
	}
	for _, head := range g.patterns(at + 1) {
		head.part.Class = g.word(at, "classmethod")
		all = append(all, g.bodies(head)...)
	}
	return all
}

// classes returns the classes that the tokens may begin, with their end.
func (g grammar) classes(at int) []partReading[impl.ClassDef] {
	if !g.word(at, "class") || g.kind(at+1) != impl.TokName || !g.word(at+2, "extends") || g.kind(at+3) != impl.TokName {
		return nil
	}
	open := []partReading[impl.ClassDef]{{at + 4, class(g[at+1].Text, g[at+3].Text, "")}}
	if g.word(at+4, "fields") {
		fields := ""
		for at += 5; ; at++ {
			open = append(open, partReading[impl.ClassDef]{at, class(open[0].part.Name, open[0].part.Parent, fields)})
			if g.kind(at) != impl.TokName {
				break
			}
			fields += " " + g[at].Text
		}
	}
	var all []partReading[impl.ClassDef]
	for i := 0; i < len(open); i++ {
		r := open[i]
		if g.word(r.end, "end") {
			all = append(all, partReading[impl.ClassDef]{r.end + 1, r.part})
		}
		for _, m := range g.methods(r.end) {
			more := r.part
			more.Methods = append(slices.Clone(r.part.Methods), m.part)
			open = append(open, partReading[impl.ClassDef]{m.end, more})
		}
	}
	return all
}

func (g grammar) units(at int) []partReading[impl.Unit] {
	var all []partReading[impl.Unit]
	open := []partReading[impl.Unit]{{at, impl.Unit{}}}
	for i := 0; i < len(open); i++ {
		r := open[i]
		if g.word(r.end, "main") {
			for _, m := range g.bodies(partReading[impl.Method]{r.end + 1, mainOf("")}) {
				all = append(all, partReading[impl.Unit]{m.end, unit(m.part, r.part.Classes...)})
			}
		}
		for _, c := range g.classes(r.end) {
			open = append(open, partReading[impl.Unit]{c.end, unit(impl.Method{}, append(slices.Clone(r.part.Classes), c.part)...)})
		}
	}
	return all
}

// wholes returns what has been read of all tokens.
func wholes[P any](g grammar, all []partReading[P]) []P {
	var list []P
	for _, r := range all {
		if r.end == len(g) {
			list = append(list, r.part)
		}
	}
	return list
}

// keepsLimits says whether the parts of a unit of short sources are as many as
// they may be.
func keepsLimits(u impl.Unit) bool {
	keeps := len(u.Classes) <= 8
	for _, c := range u.Classes {
		keeps = keeps && len(c.Fields) <= 4 && len(c.Methods) <= 12
		for _, m := range c.Methods {
			keeps = keeps && len(m.Params) <= 4
		}
	}
	return keeps
}

// checkUnitGrammar compares what the parser reads with all that the grammar
// allows, which is one method or unit at most.
func checkUnitGrammar(t *testing.T, s string) bool {
	t.Helper()
	tokens, ok := impl.Tokens(s)
	if !ok {
		t.Fatalf("%q has no tokens", s)
	}
	g := grammar(tokens)
	methods := wholes(g, g.methods(0))
	if len(methods) == 1 && keepsLimits(withMethod(methods[0])) {
		checkMethod(t, s, methods[0])
	} else {
		checkNoMethod(t, s)
	}
	units := wholes(g, g.units(0))
	if len(units) == 1 && keepsLimits(units[0]) {
		checkUnit(t, s, units[0])
	} else {
		checkNoUnit(t, s)
	}
	if len(methods)+len(units) > 1 {
		t.Errorf("the grammar reads %q in %d ways", s, len(methods)+len(units))
	}
	return len(methods)+len(units) > 0
}

// TestParseShortUnits compares all sources of a few pieces with the grammar.
func TestParseShortUnits(t *testing.T) {
	for _, c := range []struct {
		before, pieces, behind string
		most, fewest           int
	}{
		{"", "class x extends fields method classmethod end main + k: | ^ . 'end'", "", 4, 60},
		{"method", "x + k: | . ^ end ;", "", 5, 60},
		{"method", "x k: | .", "", 7, 150},
		{"classmethod", "x k: + 3", "", 6, 100},
		{"main", "x | . ^ := main end 'x'", "", 5, 100},
		{"class", "class x extends end main fields", "", 6, 3},
		{"class x extends x", "x fields method end main | k:", "", 6, 40},
		{"class x extends x method", "x + end main | method k:", "end main", 5, 60},
		{"class x extends x fields", "x class extends end method", "end main", 6, 10},
	} {
		count := 0
		var checkFrom func(s string, more int)
		checkFrom = func(s string, more int) {
			if checkUnitGrammar(t, c.before+s+" "+c.behind) {
				count++
			}
			if more == 0 || t.Failed() {
				return
			}
			for _, piece := range strings.Fields(c.pieces) {
				checkFrom(s+" "+piece, more-1)
			}
		}
		checkFrom("", c.most)
		if count < c.fewest {
			t.Errorf("only %d of the sources of %q behind %q are methods or units", count, c.pieces, c.before)
		}
	}
}

// TestParseChangedSources leaves out each token of some sources, puts each of
// many in its place, in front of it and behind it, and compares what comes of
// it with the grammar.
func TestParseChangedSources(t *testing.T) {
	pieces := append([]string{"x", "3", "'end'", "'class'", "'|'", "#a", "#end:", "+", "k:", "end:"}, append(words, markList...)...)
	for _, s := range []string{
		"method at: i put: v | q | q := a foo: [:x | x]. ^ v",
		"classmethod + n ^ x",
		"method size x a; b.",
		"class A extends B fields x y method + n ^ x classmethod k: i | q | method a x. end class C extends A end main | a | a := A new. ^ a",
		"class A extends B fields end class B extends C method a b end main",
		"main x y. ^ z.",
	} {
		tokens, ok := impl.Tokens(s)
		if !ok || !checkUnitGrammar(t, s) {
			t.Fatalf("%q is no source", s)
		}
		list := make([]string, len(tokens))
		for i, token := range tokens {
			list[i] = impl.FormatToken(token)
		}
		for at := range list {
			front, back := strings.Join(list[:at], " ")+" ", " "+strings.Join(list[at+1:], " ")
			checkUnitGrammar(t, front+back)
			checkUnitGrammar(t, front)
			checkUnitGrammar(t, list[at]+back)
			checkUnitGrammar(t, front+"'"+strings.ReplaceAll(list[at], "'", "''")+"'"+back)
			for _, piece := range pieces {
				checkUnitGrammar(t, front+piece+back)
				checkUnitGrammar(t, front+piece+" "+list[at]+back)
				checkUnitGrammar(t, front+list[at]+" "+piece+back)
			}
		}
	}
}

// method makes a method and its source.
func (m maker) method() (impl.Method, string) {
	made := impl.Method{Selector: m.pick("a", "size", "+", "//", "at:", "at:put:", "a:b:c:d:", "class:"), Class: m.Intn(2) == 0}
	blank := m.pick(" ", "\n", "\t ", "\"note\"", "  ")
	source := m.pick("method", "method ")
	if made.Class {
		source = "class" + source
	}
	source += blank + made.Selector
	for range impl.CountArgs(made.Selector) {
		made.Params = append(made.Params, m.pick("x", "y", "self", "ends"))
	}
	if len(made.Params) == 1 {
		source += blank + made.Params[0]
	}
	if len(made.Params) > 1 {
		source = strings.TrimSuffix(source, made.Selector)
		for i, part := range strings.SplitAfter(made.Selector, ":")[:len(made.Params)] {
			source += part + blank + made.Params[i] + blank
		}
	}
	temps, body, text := m.body()
	made.Temps, made.Body = temps, body
	return made, source + blank + text
}

// body makes what stands in a block without parameters, and its source.
func (m maker) body() ([]string, exprs, string) {
	e := m.block(1 + m.Intn(3))
	e.Number = 0
	s := m.inParentheses(e)
	return e.Names, e.Kids, s[1 : len(s)-1]
}

func (m maker) class() (impl.ClassDef, string) {
	made := class(m.pick("A", "B", "self"), m.pick("A", "Object"), strings.Repeat("x y ", m.Intn(3)))
	blank := m.pick(" ", "\n", "\t ", "\"note\"", "  ")
	source := strings.Join([]string{"class", made.Name, "extends", made.Parent, ""}, blank)
	if len(made.Fields) > 0 || m.Intn(3) == 0 {
		source += "fields" + blank + strings.Join(made.Fields, blank) + blank
	}
	for range m.Intn(4) {
		one, text := m.method()
		made.Methods = append(made.Methods, one)
		source += text + blank
	}
	return made, source + "end"
}

func (m maker) unit() (impl.Unit, string) {
	var made impl.Unit
	source := ""
	for range m.Intn(4) {
		one, text := m.class()
		made.Classes = append(made.Classes, one)
		source += text + m.pick(" ", "\n")
	}
	temps, body, text := m.body()
	made.Main = impl.Method{Selector: "main", Temps: temps, Body: body}
	return made, source + "main " + text
}

// TestParseMadeUnits reads methods and units from their texts.
func TestParseMadeUnits(t *testing.T) {
	m := maker{rand.New(rand.NewSource(5))}
	read := 0
	for range 10000 {
		one, source := m.method()
		if _, ok := impl.Tokens(inClass(source)); ok {
			checkMethods(t, true, one)
			checkMethodAndUnit(t, source, one)
			read++
		}
		all, source := m.unit()
		if _, ok := impl.Tokens(source); ok {
			checkUnits(t, true, all)
			checkUnit(t, source, all)
			read++
		}
	}
	if read < 15000 {
		t.Error("there are only", read, "methods and units")
	}
}

func TestParseUnitsOfAnyBytes(t *testing.T) {
	source := rand.New(rand.NewSource(6))
	pieces := append([]string{"x ", "y ", "3", "'a'", "#a ", "k: ", "+", "'", "\"", "\x00", "\xff", "\n", "class A extends B ", "method a ", "main "}, markList...)
	for _, w := range words {
		pieces = append(pieces, w+" ")
	}
	for range 100000 {
		text := []string{"", "method ", "class A extends B "}[source.Intn(3)]
		for range source.Intn(15) {
			text += pieces[source.Intn(len(pieces))]
		}
		m, isMethod := impl.ParseMethod(text)
		if isMethod != impl.IsMethod(m) || !isMethod && !reflect.DeepEqual(plainMethod(m), impl.Method{}) {
			t.Errorf("ParseMethod(%q) = %v, %v", text, m, isMethod)
		}
		u, isUnit := impl.ParseUnit(text)
		if isUnit != impl.IsUnit(u) || !isUnit && !reflect.DeepEqual(plainUnit(u), impl.Unit{}) {
			t.Errorf("ParseUnit(%q) = %v, %v", text, u, isUnit)
		}
	}
}

// roomyList returns a list with spare room with something in it.
func roomyList[E any](list []E, spare ...E) []E {
	return append(slices.Clone(list), spare...)[:len(list)]
}

func roomyMethod(m impl.Method) impl.Method {
	m.Params, m.Temps = roomyList(m.Params, "spare", "room"), roomyList(m.Temps, "more", "room")
	m.Body = roomy(block(0, "", m.Body...)).Kids
	return m
}

func roomyUnit(u impl.Unit) impl.Unit {
	u = copyOfUnit(u)
	u.Main = roomyMethod(u.Main)
	for i := range u.Classes {
		c := &u.Classes[i]
		for j := range c.Methods {
			c.Methods[j] = roomyMethod(c.Methods[j])
		}
		c.Fields, c.Methods = roomyList(c.Fields, "spare"), roomyList(c.Methods, method("spare", "", ""))
	}
	u.Classes = roomyList(u.Classes, class("Spare", "Room", "x"))
	return u
}

// wholeOfMethod returns a copy of a method with all that its lists have room for.
func wholeOfMethod(m impl.Method) impl.Method {
	m.Params, m.Temps = slices.Clone(m.Params[:cap(m.Params)]), slices.Clone(m.Temps[:cap(m.Temps)])
	m.Body = wholeOf(impl.Expr{Kids: m.Body}).Kids
	return m
}

func wholeOfUnit(u impl.Unit) impl.Unit {
	u.Main = wholeOfMethod(u.Main)
	u.Classes = slices.Clone(u.Classes[:cap(u.Classes)])
	for i := range u.Classes {
		c := &u.Classes[i]
		c.Fields, c.Methods = slices.Clone(c.Fields[:cap(c.Fields)]), slices.Clone(c.Methods[:cap(c.Methods)])
		for j := range c.Methods {
			c.Methods[j] = wholeOfMethod(c.Methods[j])
		}
	}
	return u
}

func TestUnitsAreNotModified(t *testing.T) {
	samples := []impl.Unit{sampleUnit(), {}, unit(method("b", "x y", "end"), classList(20)...), withMethod(method("a:b:", "x y", "z", send("a"), deep(30), wide(400)))}
	for _, u := range samples {
		u = roomyUnit(u)
		before := wholeOfUnit(u)
		impl.IsUnit(u)
		impl.EqualUnits(u, u)
		for _, other := range samples {
			impl.EqualUnits(u, other)
			impl.EqualUnits(other, u)
		}
		for _, m := range methodsOf(&u) {
			impl.IsMethod(*m)
			impl.EqualMethods(*m, u.Main)
			impl.EqualMethods(u.Main, *m)
		}
		if !reflect.DeepEqual(wholeOfUnit(u), before) {
			t.Errorf("%v is modified", before)
		}
	}
}

// methodsOf returns all methods of a unit, the main one included.
func methodsOf(u *impl.Unit) []*impl.Method {
	list := []*impl.Method{&u.Main}
	for i := range u.Classes {
		for j := range u.Classes[i].Methods {
			list = append(list, &u.Classes[i].Methods[j])
		}
	}
	return list
}

// placesOf returns the places in memory of all elements that a list has room for.
func placesOf[E any](list []E) []any {
	var places []any
	for i := range list[:cap(list)] {
		places = append(places, &list[:cap(list)][i])
	}
	return places
}

// spacesOfUnit returns the places in memory of all elements that the lists of a
// unit have room for.
func spacesOfUnit(u *impl.Unit) []any {
	places := placesOf(u.Classes)
	for i := range u.Classes {
		places = slices.Concat(places, placesOf(u.Classes[i].Fields), placesOf(u.Classes[i].Methods))
	}
	for _, m := range methodsOf(u) {
		places = slices.Concat(places, placesOf(m.Params), placesOf(m.Temps), spaces(&impl.Expr{Kids: m.Body}))
	}
	return places
}

func TestParsedUnitsAreNew(t *testing.T) {
	for _, s := range []string{
		"method at: i put: v | q r s | q := a foo: [:x :y | | z | x]. x a; b; c. ^ v",
		"method a: x b: y c: z d: u | a b c | x. y",
		"classmethod + n | a | ^ x",
	} {
		source := "class A extends B fields x y z " + s + " " + s + " end class C extends A fields x y z " + s + " end main | a b c | a b: c. [:x | | y | z]. ^ a"
		first, _ := impl.ParseUnit(source)
		second, ok := impl.ParseUnit(source)
		want := copyOfUnit(second)
		one, _ := impl.ParseMethod(s)
		two, fine := impl.ParseMethod(s)
		if !ok || !fine {
			t.Fatalf("%q is no method", s)
		}
		met := map[any]bool{}
		for _, place := range slices.Concat(spacesOfUnit(&first), spacesOfUnit(&second), spacesOfUnit(&impl.Unit{Main: one}), spacesOfUnit(&impl.Unit{Main: two})) {
			if met[place] {
				t.Errorf("two lists of the methods and units of %q share memory", s)
			}
			met[place] = true
		}
		for _, m := range methodsOf(&first) {
			clear(m.Params[:cap(m.Params)])
			clear(m.Temps[:cap(m.Temps)])
			clear(m.Body[:cap(m.Body)])
		}
		checkUnit(t, source, want)
		checkEqualUnits(t, "results of one source", second, want, true)
	}
}
