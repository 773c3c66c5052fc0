package tests

import (
	"math"
	"reflect"
	"slices"
	"strings"
	"testing"

	"loop.example/g03108/impl"
)

type exprs = []impl.Expr

func number(n int) impl.Expr       { return impl.Expr{Kind: impl.ExprInt, Number: n} }
func textOf(s string) impl.Expr    { return impl.Expr{Kind: impl.ExprText, Text: s} }
func symbol(s string) impl.Expr    { return impl.Expr{Kind: impl.ExprSymbol, Text: s} }
func name(s string) impl.Expr      { return impl.Expr{Kind: impl.ExprName, Text: s} }
func answer(e impl.Expr) impl.Expr { return impl.Expr{Kind: impl.ExprReturn, Kids: exprs{e}} }

func assign(s string, e impl.Expr) impl.Expr {
	return impl.Expr{Kind: impl.ExprAssign, Text: s, Kids: exprs{e}}
}

func send(s string, kids ...impl.Expr) impl.Expr {
	return impl.Expr{Kind: impl.ExprSend, Text: s, Kids: kids}
}

func cascade(kids ...impl.Expr) impl.Expr {
	return impl.Expr{Kind: impl.ExprCascade, Kids: kids}
}

func block(params int, names string, kids ...impl.Expr) impl.Expr {
	return impl.Expr{Kind: impl.ExprBlock, Number: params, Names: strings.Fields(names), Kids: kids}
}

// wide is a tree of n nodes, all but one of them below the root.
func wide(n int) impl.Expr {
	return block(0, "", slices.Repeat(exprs{name("x")}, n-1)...)
}

// deep is a tree with a depth of n nodes.
func deep(n int) impl.Expr {
	e := name("x")
	for range n - 1 {
		e = assign("x", e)
	}
	return e
}

// doubled is a tree of 2^n - 1 nodes, n levels deep, whose nodes share memory.
func doubled(n int, leaf impl.Expr) impl.Expr {
	e := leaf
	for range n - 1 {
		e = send("+", e, e)
	}
	return e
}

// endless is a value that contains itself, so many values on.
func endless(steps int, s string) impl.Expr {
	ring := make(exprs, steps)
	for i := range ring {
		ring[i] = impl.Expr{Kind: impl.ExprAssign, Text: s, Kids: ring[(i+1)%steps : (i+1)%steps+1]}
	}
	return ring[0]
}

// sampleTree has nodes of all kinds, and fields of all kinds that are not zero.
func sampleTree() impl.Expr {
	return block(1, "a b",
		assign("a", send("at:put:", name("b"), number(12), textOf("it's"))),
		cascade(name("a"), send("size"), send("+", symbol("at:put:")), send("at:put:", number(1), block(0, ""))),
		block(0, "t", name("t"), answer(name("t"))),
		answer(send("size", name("b"))))
}

func copyOf(e impl.Expr) impl.Expr {
	e.Names = slices.Clone(e.Names)
	e.Kids = slices.Clone(e.Kids)
	for i := range e.Kids {
		e.Kids[i] = copyOf(e.Kids[i])
	}
	return e
}

// nodesOf returns the nodes of a tree.
func nodesOf(e *impl.Expr) []*impl.Expr {
	nodes := []*impl.Expr{e}
	for i := range e.Kids {
		nodes = append(nodes, nodesOf(&e.Kids[i])...)
	}
	return nodes
}

func checkExprs(t *testing.T, want bool, list ...impl.Expr) {
	t.Helper()
	for _, e := range list {
		if got := impl.IsExpr(e); got != want {
			t.Errorf("IsExpr(%+v) = %v", e, got)
		}
	}
}

func checkExtent(t *testing.T, what string, e impl.Expr, size, depth int) {
	t.Helper()
	if got := impl.SizeOfExpr(e); got != size {
		t.Errorf("SizeOfExpr of %s = %d, want %d", what, got, size)
	}
	if got := impl.DepthOfExpr(e); got != depth {
		t.Errorf("DepthOfExpr of %s = %d, want %d", what, got, depth)
	}
}

// checkEqual compares two trees both ways, and each of them with itself.
func checkEqual(t *testing.T, what string, a, b impl.Expr, want bool) {
	t.Helper()
	if impl.EqualExprs(a, b) != want || impl.EqualExprs(b, a) != want {
		t.Errorf("EqualExprs of %s is not %v", what, want)
	}
	if !impl.EqualExprs(a, a) || !impl.EqualExprs(b, b) {
		t.Errorf("%s: a tree is not equal to itself", what)
	}
}

func TestTreeNumbersOfKinds(t *testing.T) {
	kinds := []int{
		impl.ExprInt, impl.ExprText, impl.ExprSymbol, impl.ExprName, impl.ExprAssign,
		impl.ExprSend, impl.ExprCascade, impl.ExprBlock, impl.ExprReturn,
	}
	if !slices.Equal(kinds, []int{1, 2, 3, 4, 5, 6, 7, 8, 9}) {
		t.Error(kinds)
	}
	if impl.MaxNodes != 300 || impl.MaxDepth != 25 {
		t.Error(impl.MaxNodes, impl.MaxDepth)
	}
}

func TestSizesAndDepths(t *testing.T) {
	x := name("x")
	checkExtent(t, "the zero tree", impl.Expr{}, 1, 1)
	checkExtent(t, "a name", x, 1, 1)
	checkExtent(t, "an empty list of kids", impl.Expr{Kids: exprs{}}, 1, 1)
	checkExtent(t, "a block without statements", block(2, "a b"), 1, 1)
	checkExtent(t, "an assignment", assign("x", x), 2, 2)
	checkExtent(t, "a return", answer(send("size", x)), 3, 3)
	checkExtent(t, "a send", send("at:put:", x, x, x), 4, 2)
	checkExtent(t, "a cascade", cascade(x, send("size"), send("+", x)), 5, 3)
	checkExtent(t, "a deep first kid", send("+", deep(5), x), 7, 6)
	checkExtent(t, "a deep last kid", send("+", x, deep(5)), 7, 6)
	checkExtent(t, "a deep kid between others", send("at:put:", deep(2), deep(5), deep(3)), 11, 6)
	checkExtent(t, "a tree of all kinds", sampleTree(), 21, 4)
	checkExtent(t, "a wide tree", wide(100000), 100000, 2)
	checkExtent(t, "a deep tree", deep(300000), 300000, 300000)
	checkExtent(t, "a kind that is none", impl.Expr{Kind: -5, Kids: exprs{{Kind: 77}, {Kids: exprs{{}}}}}, 4, 3)
	checkExtent(t, "a name with kids", impl.Expr{Kind: impl.ExprName, Number: 9, Names: []string{"a"}, Kids: exprs{x, x}}, 3, 2)
}

// TestSizesOfSharedTrees measures trees that are larger than memory.
func TestSizesOfSharedTrees(t *testing.T) {
	shared := exprs{name("x"), name("y"), deep(3)}
	checkExtent(t, "kids that stand at two places", send("+", send("a", shared...), send("b", shared[1:]...)), 12, 5)
	checkExtent(t, "kids that are part of a list", send("+", send("a", shared[1:]...), send("b", shared...)), 12, 5)
	for _, n := range []int{2, 10, 41, 62, 63} {
		checkExtent(t, "a doubled tree", doubled(n, name("x")), 1<<(n-1)-1+1<<(n-1), n)
	}
	checkExtent(t, "the greatest tree", doubled(63, name("x")), math.MaxInt, 63)
	checkExtent(t, "a greater tree", doubled(64, name("x")), math.MaxInt, 64)
	checkExtent(t, "a far greater tree", doubled(200, name("x")), math.MaxInt, 200)
	checkExprs(t, false, doubled(10, name("x")), doubled(25, name("x")), doubled(200, name("x")))
	checkExprs(t, true, doubled(8, name("x")))
}

// TestEndlessTrees gives the functions what no number of nodes can be told of,
// so that all that matters is that they end.
func TestEndlessTrees(t *testing.T) {
	for _, e := range []impl.Expr{
		endless(1, "x"), endless(2, "x"), endless(7, "x"),
		answer(endless(3, "x")), send("+", deep(5), endless(1, "x")), send("+", endless(4, "x"), deep(5)),
	} {
		checkExtent(t, "an endless tree", e, math.MaxInt, math.MaxInt)
		checkExprs(t, false, e)
		checkEqual(t, "an endless tree and another one", e, send("-", endless(1, "y"), endless(1, "x")), false)
		checkEqual(t, "an endless tree and one with an end", e, deep(30), false)
	}
	checkEqual(t, "endless trees", endless(2, "x"), endless(3, "x"), true)
	checkEqual(t, "different endless trees", endless(2, "x"), endless(3, "y"), false)
}

func TestEqualTrees(t *testing.T) {
	x, y := name("x"), name("y")
	for _, e := range []impl.Expr{
		{}, x, number(0), number(-7), textOf(""), symbol("+"), answer(x), sampleTree(), wide(1000), deep(1000),
		{Kind: 77, Text: "a b", Number: -1, Names: []string{"", "class"}, Kids: exprs{{}, {Kind: -1}}},
	} {
		checkEqual(t, "a tree and its copy", e, copyOf(e), true)
	}
	for _, two := range [][2]impl.Expr{
		{x, y}, {x, textOf("x")}, {x, symbol("x")}, {textOf("x"), symbol("x")}, {textOf("x"), textOf("X")}, {textOf(""), textOf(" ")},
		{number(0), number(1)}, {number(1), number(-1)}, {number(0), {}}, {x, {}}, {x, answer(x)}, {x, assign("x", x)},
		{assign("x", y), assign("y", y)}, {assign("x", y), assign("x", x)}, {assign("x", y), send("x", y)},
		{send("+", x, y), send("+", y, x)}, {send("+", x, y), send("+", x)}, {send("+", x), send("+", x, x)}, {send("a"), send("a", x)},
		{cascade(x, send("a"), send("b")), cascade(x, send("b"), send("a"))}, {cascade(x, send("a")), cascade(x)},
		{block(0, "a b"), block(1, "a b")}, {block(0, "a b"), block(0, "b a")}, {block(0, "a b"), block(0, "a")},
		{block(0, ""), block(0, "a")}, {block(0, "a"), block(0, "b")}, {block(0, "", x), block(0, "")}, {block(0, "", x, y), block(0, "", y, x)},
		{block(0, "", answer(x)), block(0, "", x)}, {send("+", send("+", x, x), x), send("+", x, send("+", x, x))},
		{deep(1000), deep(1001)}, {wide(1000), wide(1001)}, {doubled(40, x), doubled(40, y)}, {doubled(40, x), doubled(41, x)},
	} {
		checkEqual(t, "different trees", two[0], two[1], false)
	}
}

func TestEqualTreesInMemory(t *testing.T) {
	empty := impl.Expr{Kind: impl.ExprBlock, Names: []string{}, Kids: exprs{}}
	checkEqual(t, "nil and empty lists", empty, impl.Expr{Kind: impl.ExprBlock}, true)
	checkEqual(t, "nil and empty lists below", answer(empty), answer(impl.Expr{Kind: impl.ExprBlock}), true)
	checkEqual(t, "deep trees", deep(300000), deep(300000), true)
	checkEqual(t, "deep trees that differ", deep(300000), deep(300001), false)
	checkEqual(t, "shared trees", doubled(200, name("x")), doubled(200, name("x")), true)
	checkEqual(t, "a shared tree and one that is not", doubled(10, name("x")), copyOf(doubled(10, name("x"))), true)
	left, right := exprs{name("x"), name("y"), name("x")}, exprs{name("x"), name("y"), name("y")}
	checkEqual(t, "parts of lists", send("+", send("a", left[:2]...), send("a", left...)), send("+", send("a", right[:2]...), send("a", right...)), false)
	checkEqual(t, "a list against itself", send("+", send("a", left[:2]...), send("b", left...)), send("+", send("a", left[1:]...), send("b", left...)), false)
}

func TestExprsOfEachKind(t *testing.T) {
	x := name("x")
	checkExprs(t, true,
		number(0), number(1), number(999999998), number(999999999),
		textOf(""), textOf(" "), textOf("~"), textOf("it's \"1\""), textOf("class"), textOf(strings.Repeat("'", 40)),
		symbol("x"), symbol("+"), symbol(`\\`), symbol("class:"), symbol("at:put:"), symbol("a:b:c:d:"), symbol(longName), symbol(longName+":"),
		x, name("Z9"), name("self"), name("ends"), name(longName),
		assign("x", x), assign(longName, block(0, "")), assign("x", assign("y", x)),
		send("size", x), send("+", x, x), send("class:", x, x), send("at:put:", x, x, x), send("a:b:c:d:", x, x, x, x, x),
		cascade(x, send("size"), send("size")), cascade(number(1), send("+", x), send("a:b:", x, x), send("size")),
		cascade(cascade(x, send("a"), send("b")), send("c"), send("+", cascade(x, send("a"), send("b")))),
		cascade(block(0, "", answer(x)), send("a"), send("b")),
		block(0, ""), block(0, "a"), block(1, "a"), block(0, "a b"), block(2, "a b"), block(2, "a a"), block(1, "a", x, x, x),
		block(9, "a b c d e f g h i j"), block(0, longName),
		answer(x), answer(block(0, "", answer(x))),
		sampleTree(), answer(sampleTree()))
	for _, s := range operators {
		checkExprs(t, true, symbol(s), send(s, x, x), cascade(x, send(s, x), send(s, x)))
		checkExprs(t, false, name(s), assign(s, x), send(s), send(s, x), send(s, x, x, x), block(0, s))
	}
}

func TestValuesThatAreNone(t *testing.T) {
	checkExprs(t, false,
		number(-1), number(1000000000), number(math.MaxInt), number(math.MinInt),
		textOf(strings.Repeat("a", 41)), textOf("\x1f"), textOf("\x7f"), textOf("a\nb"), textOf("é"), textOf("\xff"), textOf("\x00"),
		symbol(""), symbol("class"), symbol("#a"), symbol("a b"), symbol("a:b"), symbol("a:b:c:d:e:"), symbol("1"), symbol("++"), symbol(tooLongName), symbol(":"),
		name(""), name("1a"), name("a:"), name("+"), name("a_b"), name("é"), name(tooLongName))
	for _, s := range words {
		checkExprs(t, false, name(s), symbol(s), assign(s, number(1)), send(s, number(1)), block(0, s), block(1, "a "+s),
			cascade(number(1), send(s), send(s)))
		checkExprs(t, true, symbol(s+":"), send(s+":", number(1), number(1)))
	}
	for _, kind := range []int{0, -1, 10, 11, 100, math.MaxInt, math.MinInt} {
		bad := impl.Expr{Kind: kind}
		checkExprs(t, false, bad, assign("x", bad), answer(bad), send("size", bad), send("+", number(1), bad), block(0, "", bad), block(0, "", bad, number(1)),
			cascade(bad, send("a"), send("b")), cascade(number(1), bad, send("b")), cascade(number(1), send("a"), bad), cascade(number(1), send("a"), send("+", bad)))
	}
}

func TestMessagesWithTheirArguments(t *testing.T) {
	x := name("x")
	for s, args := range map[string]int{"size": 0, "+": 1, "at:": 1, "at:put:": 2, "a:b:c:": 3, "a:b:c:d:": 4} {
		for n := range 8 {
			kids := slices.Repeat(exprs{x}, n)
			checkExprs(t, n == args+1, send(s, kids...), answer(send(s, kids...)), assign("y", send(s, kids...)))
			checkExprs(t, n == args, cascade(x, send(s, kids...), send("a")), cascade(x, send("a"), send(s, kids...)), cascade(x, send("a"), send(s, kids...), send("a")))
		}
	}
	for _, s := range []string{"", "class", "a b", "a:b", "a:b:c:d:e:", "1", ":", "++", tooLongName} {
		for n := range 8 {
			kids := slices.Repeat(exprs{x}, n)
			checkExprs(t, false, send(s, kids...), cascade(x, send("a"), send(s, kids...)))
		}
	}
}

func TestCascadesAndTheirMessages(t *testing.T) {
	x := name("x")
	checkExprs(t, false,
		cascade(), cascade(x), cascade(x, send("a")), cascade(send("a"), send("a")), cascade(send("a", x), send("a")),
		cascade(send("a"), send("a"), send("a")), cascade(answer(x), send("a"), send("a")), cascade(name("end"), send("a"), send("a")),
		cascade(x, x, x), cascade(x, send("a"), x), cascade(x, x, send("a")), cascade(x, send("a"), symbol("a")),
		cascade(x, send("a"), assign("a", x)), cascade(x, send("a"), answer(x)), cascade(x, send("a"), block(0, "")),
		cascade(x, send("a"), cascade(x, send("a"), send("a"))), cascade(x, send("a"), cascade(send("a"), send("a"))),
		cascade(x, send("a"), send("+", send("a"))), cascade(x, send("a"), send("+", answer(x))), cascade(x, send("a"), send("+", name("end"))),
		send("a", send("a")), answer(send("a")), block(0, "", send("a")), assign("x", send("a")), send("a"))
	for n := range 6 {
		e := cascade(append(exprs{x}, slices.Repeat(exprs{send("a")}, n)...)...)
		checkExprs(t, n >= 2, e, answer(e), assign("x", e), send("a", e), block(0, "", e), cascade(x, send("a"), send("+", e)))
		last := len(e.Kids) - 1
		e.Kids[last] = send("a", x)
		checkExprs(t, false, e)
	}
	for _, change := range []func(*impl.Expr){
		func(e *impl.Expr) { e.Number = 1 },
		func(e *impl.Expr) { e.Names = []string{"a"} },
		func(e *impl.Expr) { e.Kind = impl.ExprName },
	} {
		for i := 1; i < 4; i++ {
			e := cascade(x, send("a"), send("b"), send("c"))
			change(&e.Kids[i])
			checkExprs(t, false, e)
		}
	}
}

func TestReturnsAtTheirPlaces(t *testing.T) {
	x, r := name("x"), answer(name("x"))
	checkExprs(t, true,
		r, answer(send("+", x, x)), block(0, "", r), block(0, "", x, r), block(1, "a", x, x, r),
		assign("x", block(0, "", r)), send("+", block(0, "", r), block(0, "", r)), answer(block(0, "", r)),
		block(0, "", block(0, "", r), r), block(0, "", block(0, "", r), x), cascade(block(0, "", r), send("a"), send("+", block(0, "", r))))
	checkExprs(t, false,
		answer(r), assign("x", r), send("size", r), send("+", x, r), send("+", r, x), send("a:b:", x, r, x),
		block(0, "", r, x), block(0, "", r, r), block(0, "", x, r, x), block(0, "", r, x, r), block(0, "", answer(r)), block(0, "", assign("x", r)),
		cascade(r, send("a"), send("b")), cascade(x, r, send("b")), cascade(x, send("a"), r), cascade(x, send("a"), send("+", r)),
		block(0, "", block(0, "", r, x)), block(0, "", send("size", r)), answer(send("size", r)), answer(block(0, "", r, x)),
		impl.Expr{Kind: impl.ExprReturn}, impl.Expr{Kind: impl.ExprReturn, Kids: exprs{x, x}}, block(0, "", impl.Expr{Kind: impl.ExprReturn}),
		impl.Expr{Kind: impl.ExprAssign, Text: "x"}, impl.Expr{Kind: impl.ExprAssign, Text: "x", Kids: exprs{x, x}})
}

func TestParametersOfBlocks(t *testing.T) {
	for names := range 12 {
		list := strings.Repeat("a ", names)
		for params := -2; params < 14; params++ {
			checkExprs(t, params >= 0 && params <= names, block(params, list), block(params, list, answer(number(1))), answer(block(params, list)))
		}
		checkExprs(t, false, block(math.MaxInt, list), block(math.MinInt, list))
	}
	for _, bad := range []string{"", "end", "1", "a b", "a:", "+", tooLongName, "é"} {
		for at := range 3 {
			e := block(1, "a b c")
			e.Names[at] = bad
			checkExprs(t, false, e)
		}
	}
}

func TestLimitsOfTrees(t *testing.T) {
	checkExprs(t, true, wide(299), wide(300), deep(24), deep(25), answer(deep(24)), answer(wide(299)), block(0, "", deep(24)))
	checkExprs(t, false, wide(301), wide(1000), wide(100000), deep(26), deep(27), deep(300000), answer(deep(25)), answer(wide(300)), block(0, "", deep(25)))
	checkExprs(t, true, block(0, "", append(wide(276).Kids, deep(24))...))
	checkExprs(t, false, block(0, "", append(wide(277).Kids, deep(24))...))
	checkExprs(t, false, block(0, "", append(wide(275).Kids, deep(25))...))
	checkExprs(t, false, block(0, "", append(exprs{deep(25)}, wide(275).Kids...)...))
	many := cascade(append(exprs{name("x")}, slices.Repeat(exprs{send("a")}, 298)...)...)
	checkExprs(t, true, many, block(0, strings.Repeat("a ", 1000)))
	many.Kids = append(many.Kids, send("a"))
	checkExprs(t, false, many)
}

// TestFieldsWithoutMeaning sets each field of a node of each kind that has no
// meaning for it.
func TestFieldsWithoutMeaning(t *testing.T) {
	x := name("x")
	for meaning, list := range map[string]exprs{
		"number":      {number(7), number(0)},
		"text":        {textOf("a"), symbol("a"), name("a")},
		"text kids":   {assign("a", x), send("a", x), send("+", x, x), send("a:b:", x, x, x)},
		"kids":        {cascade(x, send("a"), send("b")), answer(x)},
		"number kids": {block(1, "a", x), block(0, ""), block(0, "", answer(x))},
	} {
		for _, e := range list {
			checkExprs(t, true, e)
			if !strings.Contains(meaning, "number") {
				for _, n := range []int{1, -1, math.MaxInt, math.MinInt} {
					bad := e
					bad.Number = n
					checkExprs(t, false, bad, send("size", bad), block(0, "", bad))
				}
			}
			if !strings.Contains(meaning, "text") {
				for _, s := range []string{"a", " ", "+", "\x00"} {
					bad := e
					bad.Text = s
					checkExprs(t, false, bad, send("size", bad), block(0, "", bad))
				}
			}
			if !strings.Contains(meaning, "kids") {
				bad := e
				bad.Kids = exprs{x}
				checkExprs(t, false, bad, send("size", bad), block(0, "", bad))
			}
			if e.Kind != impl.ExprBlock {
				for _, s := range []string{"a", ""} {
					bad := e
					bad.Names = []string{s}
					checkExprs(t, false, bad, send("size", bad), block(0, "", bad))
				}
			}
			e.Names, e.Kids = append([]string{}, e.Names...), append(exprs{}, e.Kids...)
			checkExprs(t, true, e)
		}
	}
}

// roles are what a node may be at its place.
const (
	aValue = iota
	aStatement
	aMessage
)

// argsOf counts the arguments of the selectors that the trees here have.
var argsOf = map[string]int{"a": 0, "b": 0, "x": 0, "t": 0, "size": 0, "+": 1, "at:": 1, "at:put:": 2}

// isTree says by the words of the document whether a tree is well-formed.
func isTree(e impl.Expr, role int) bool {
	args, isSelector := argsOf[e.Text]
	isName := isSelector && args == 0
	type rule struct {
		field bool
		kids  int
	}
	rules := map[int]rule{
		impl.ExprInt:     {e.Text == "" && e.Number >= 0 && e.Number <= 999999999, 0},
		impl.ExprText:    {e.Number == 0 && len(e.Text) <= 40, 0},
		impl.ExprSymbol:  {e.Number == 0 && isSelector, 0},
		impl.ExprName:    {e.Number == 0 && isName, 0},
		impl.ExprAssign:  {e.Number == 0 && isName, 1},
		impl.ExprSend:    {e.Number == 0 && isSelector, args + 1},
		impl.ExprCascade: {e.Number == 0 && e.Text == "" && len(e.Kids) >= 3, len(e.Kids)},
		impl.ExprBlock:   {e.Text == "" && e.Number >= 0 && e.Number <= len(e.Names), len(e.Kids)},
		impl.ExprReturn:  {e.Number == 0 && e.Text == "" && role == aStatement, 1},
	}
	r, isKind := rules[e.Kind]
	if role == aMessage {
		isKind = e.Kind == impl.ExprSend
		r.kids--
	}
	for i, kid := range e.Kids {
		place := aValue
		if e.Kind == impl.ExprCascade && i > 0 {
			place = aMessage
		}
		if e.Kind == impl.ExprBlock && i == len(e.Kids)-1 {
			place = aStatement
		}
		isKind = isKind && isTree(kid, place)
	}
	for _, s := range e.Names {
		args, isSelector := argsOf[s]
		isKind = isKind && e.Kind == impl.ExprBlock && isSelector && args == 0
	}
	return isKind && r.field && r.kids == len(e.Kids)
}

// changesOfNodes are changes of one node, which all make it another one but
// those that leave out what is not there.
func changesOfNodes() []func(*impl.Expr) {
	changes := []func(*impl.Expr){
		func(e *impl.Expr) { e.Kids = e.Kids[:max(0, len(e.Kids)-1)] },
		func(e *impl.Expr) { e.Kids = e.Kids[min(1, len(e.Kids)):] },
		func(e *impl.Expr) { e.Kids = nil },
		func(e *impl.Expr) { slices.Reverse(e.Kids) },
		func(e *impl.Expr) { e.Kids = append(e.Kids[:len(e.Kids):len(e.Kids)], e.Kids...) },
		func(e *impl.Expr) { e.Names = e.Names[:max(0, len(e.Names)-1)] },
		func(e *impl.Expr) { slices.Reverse(e.Names) },
		func(e *impl.Expr) { e.Number++ },
		func(e *impl.Expr) { e.Number-- },
		func(e *impl.Expr) { e.Number = 1000000000 - e.Number },
		func(e *impl.Expr) { *e = answer(*e) },
		func(e *impl.Expr) { *e = block(0, "", *e) },
		func(e *impl.Expr) { *e = send("size", *e) },
	}
	for kind := range 11 {
		changes = append(changes, func(e *impl.Expr) { e.Kind = kind })
	}
	for _, s := range []string{"", "a", "end", "+", "at:", "at:put:", "a b", strings.Repeat("a", 41)} {
		changes = append(changes,
			func(e *impl.Expr) { e.Text = s },
			func(e *impl.Expr) { e.Names = append([]string{s}, e.Names...) })
	}
	for _, kid := range []impl.Expr{name("a"), answer(name("a")), send("size"), number(-1), sampleTree()} {
		changes = append(changes,
			func(e *impl.Expr) { *e = kid },
			func(e *impl.Expr) { e.Kids = append(exprs{kid}, e.Kids...) },
			func(e *impl.Expr) { e.Kids = append(slices.Clone(e.Kids), kid) })
	}
	return changes
}

// withoutEmpty makes empty lists nil, so that reflection finds equal trees.
func withoutEmpty(e impl.Expr) impl.Expr {
	e = copyOf(e)
	for _, node := range nodesOf(&e) {
		if len(node.Names) == 0 {
			node.Names = nil
		}
		if len(node.Kids) == 0 {
			node.Kids = nil
		}
	}
	return e
}

// checkChanges makes any so many changes at any nodes of a tree, the later ones
// not above the earlier ones, and compares IsExpr with the rules above.
func checkChanges(t *testing.T, e impl.Expr, first, more int) {
	if got, want := impl.IsExpr(e), isTree(e, aStatement); got != want {
		t.Fatalf("IsExpr(%+v) = %v, want %v", e, got, want)
	}
	if more == 0 {
		return
	}
	for at := first; at < len(nodesOf(&e)); at++ {
		for _, change := range changesOfNodes() {
			changed := copyOf(e)
			change(nodesOf(&changed)[at])
			checkChanges(t, changed, at, more-1)
		}
	}
}

func TestChangedTrees(t *testing.T) {
	x := name("x")
	checkChanges(t, sampleTree(), 0, 1)
	for _, e := range []impl.Expr{x, answer(x), block(1, "a b", x, answer(x)), cascade(x, send("size"), send("+", x)), send("+", number(1), assign("t", x))} {
		checkChanges(t, e, 0, 2)
	}
}

func TestChangedTreesAreNotEqual(t *testing.T) {
	e := sampleTree()
	for at := range nodesOf(&e) {
		for _, change := range changesOfNodes() {
			changed := copyOf(e)
			change(nodesOf(&changed)[at])
			checkEqual(t, "a tree and its change", e, changed, reflect.DeepEqual(withoutEmpty(e), withoutEmpty(changed)))
			checkExtent(t, "a changed tree", changed, len(nodesOf(&changed)), depthOf(changed))
		}
	}
}

func depthOf(e impl.Expr) int {
	deepest := 0
	for _, kid := range e.Kids {
		deepest = max(deepest, depthOf(kid))
	}
	return 1 + deepest
}

// roomy returns a tree whose lists have spare room with something in it.
func roomy(e impl.Expr) impl.Expr {
	names := append(slices.Clone(e.Names), "spare", "room")
	kids := append(slices.Clone(e.Kids), number(1), sampleTree())
	for i := range kids[:len(e.Kids)] {
		kids[i] = roomy(kids[i])
	}
	e.Names, e.Kids = names[:len(e.Names)], kids[:len(e.Kids)]
	return e
}

// wholeOf returns a copy of a tree with all that its lists have room for.
func wholeOf(e impl.Expr) impl.Expr {
	e.Names = slices.Clone(e.Names[:cap(e.Names)])
	kids := slices.Clone(e.Kids[:cap(e.Kids)])
	for i := range kids {
		kids[i] = wholeOf(kids[i])
	}
	e.Kids = kids
	return e
}

func TestTreesAreNotModified(t *testing.T) {
	bad := roomy(block(3, "a end", answer(name("a")), send("a b"), impl.Expr{Kind: 77}))
	for _, e := range []impl.Expr{roomy(sampleTree()), bad, roomy(deep(30)), roomy(wide(400)), roomy(doubled(4, name("x")))} {
		before := wholeOf(e)
		impl.SizeOfExpr(e)
		impl.DepthOfExpr(e)
		impl.IsExpr(e)
		impl.EqualExprs(e, bad)
		impl.EqualExprs(bad, e)
		impl.EqualExprs(e, e)
		if !reflect.DeepEqual(wholeOf(e), before) {
			t.Errorf("%+v is modified", before)
		}
	}
}
