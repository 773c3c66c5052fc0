package tests

import (
	"math"
	"math/rand"
	"reflect"
	"slices"
	"strconv"
	"strings"
	"testing"

	"loop.example/g03108/impl"
)

type values = []impl.Value

func boolValue(n int) impl.Value      { return impl.Value{Kind: impl.ValueBool, Number: n} }
func intValue(n int) impl.Value       { return impl.Value{Kind: impl.ValueInt, Number: n} }
func textValue(s string) impl.Value   { return impl.Value{Kind: impl.ValueText, Text: s} }
func symbolValue(s string) impl.Value { return impl.Value{Kind: impl.ValueSymbol, Text: s} }
func classValue(k int) impl.Value     { return impl.Value{Kind: impl.ValueClass, Number: k} }
func refValue(i int) impl.Value       { return impl.Value{Kind: impl.ValueRef, Number: i} }
func blockValue(i int) impl.Value     { return impl.Value{Kind: impl.ValueBlock, Number: i} }

func arrayOf(fields ...impl.Value) impl.Object {
	return impl.Object{Kind: impl.ObjectArray, Class: 10, Fields: fields}
}

func semaphoreOf(numbers ...int) impl.Object {
	return impl.Object{Kind: impl.ObjectSemaphore, Class: 12, Numbers: numbers}
}

// plainOf is a plain object whose fields are nil.
func plainOf(class, fields int, numbers ...int) impl.Object {
	return impl.Object{Kind: impl.ObjectPlain, Class: class, Fields: make(values, fields), Numbers: numbers}
}

// extremes has numbers at and around all bounds of the chapter.
func extremes() []int {
	list := []int{math.MinInt, math.MinInt + 1, math.MaxInt - 1, math.MaxInt}
	for _, n := range []int{-1000000000, -999999999, -1000, -800, -1, 0, 1, 2, 5, 10, 12, 15, 16, 24, 50, 60, 200, 800, 999, 1000, 3000, 999999999, 1000000000} {
		list = append(list, n-1, n, n+1)
	}
	slices.Sort(list)
	return slices.Compact(list)
}

// sampleTexts has texts that values of different kinds can have, and ones that
// none can have.
func sampleTexts() []string {
	return append(strings.Split("|a|x1|+|==|~|at:|at:put:|a:b:c:d:|a:b:c:d:e:|class|class:|end|at:put|a b|it's|''|#a| |1|nil|é|\n|\x00|\x1f|\x7f|\x80|\xff|~~|~\x1f|a\x7fb", "|"),
		longName, longName+"a", strings.Repeat(" ", 40), strings.Repeat(" ", 41), strings.Repeat("'", 200), strings.Repeat("'", 201), strings.Repeat("a", 200), strings.Repeat("~", 201), strings.Repeat("\x7f", 200), strings.Repeat("é", 100), strings.Repeat("a", 100000))
}

// hasByteOutside says whether a text has a byte that no text of a value has.
func hasByteOutside(s string) bool {
	for _, b := range []byte(s) {
		if b < ' ' || b > '~' {
			return true
		}
	}
	return false
}

// isValueByWords says by the words of the document whether v is a value.
func isValueByWords(v impl.Value) bool {
	noNumber, noText := v.Number == 0, v.Text == ""
	return v.Kind == 0 && noNumber && noText ||
		v.Kind == 1 && (v.Number == 0 || v.Number == 1) && noText ||
		v.Kind == 2 && -999999999 <= v.Number && v.Number <= 999999999 && noText ||
		v.Kind == 3 && noNumber && len(v.Text) <= 200 && !hasByteOutside(v.Text) ||
		v.Kind == 4 && noNumber && impl.CountArgs(v.Text) >= 0 ||
		(v.Kind == 5 || v.Kind == 6 || v.Kind == 7) && v.Number >= 0 && noText
}

// checkValues compares IsValue with what is wanted.
func checkValues(t *testing.T, want bool, list ...impl.Value) {
	t.Helper()
	for _, v := range list {
		if got := impl.IsValue(v); got != want || isValueByWords(v) != want {
			t.Errorf("IsValue(%s) = %v, want %v", brief(v), got, want)
		}
	}
}

func TestValueNumbers(t *testing.T) {
	got := []int{impl.ValueNil, impl.ValueBool, impl.ValueInt, impl.ValueText, impl.ValueSymbol, impl.ValueClass, impl.ValueRef, impl.ValueBlock}
	if !slices.Equal(got, []int{0, 1, 2, 3, 4, 5, 6, 7}) {
		t.Error(got)
	}
	got = []int{impl.ObjectPlain, impl.ObjectArray, impl.ObjectSemaphore, impl.MaxMade, impl.MaxArray, impl.MaxOutput, impl.MaxText, impl.MaxTicks}
	if !slices.Equal(got, []int{1, 2, 3, 800, 50, 60, 200, 3000}) {
		t.Error(got)
	}
}

func TestValuesThatAreSimple(t *testing.T) {
	checkValues(t, true, impl.Value{}, boolValue(0), boolValue(1), intValue(0), intValue(1), intValue(-1), intValue(999999999), intValue(-999999999))
	checkValues(t, false, impl.Value{Number: 1}, impl.Value{Number: -1}, impl.Value{Text: "nil"}, impl.Value{Text: " "}, impl.Value{Number: 1, Text: "a"})
	checkValues(t, false, boolValue(2), boolValue(-1), boolValue(math.MinInt), boolValue(math.MaxInt), impl.Value{Kind: 1, Text: "a"}, impl.Value{Kind: 1, Number: 1, Text: "true"})
	checkValues(t, false, intValue(1000000000), intValue(-1000000000), intValue(math.MinInt), intValue(math.MaxInt), impl.Value{Kind: 2, Text: "0"}, impl.Value{Kind: 2, Number: 7, Text: "7"})
}

func TestValuesWithIndices(t *testing.T) {
	for _, n := range extremes() {
		checkValues(t, n >= 0, classValue(n), refValue(n), blockValue(n))
		for kind := 5; kind <= 7; kind++ {
			checkValues(t, false, impl.Value{Kind: kind, Number: n, Text: "a"}, impl.Value{Kind: kind, Number: n, Text: " "})
		}
	}
}

func TestValuesWithTexts(t *testing.T) {
	checkValues(t, true, textValue(""), textValue("a"), textValue(" "), textValue("~"), textValue("it's"), textValue("end"), textValue("'"), textValue(strings.Repeat("a", 199)), textValue(strings.Repeat("a", 200)), textValue(strings.Repeat("'", 200)))
	checkValues(t, false, textValue(strings.Repeat("a", 201)), textValue(strings.Repeat("'", 201)), textValue(strings.Repeat("a", 1000000)), textValue(strings.Repeat("é", 100)), textValue("a\n"))
	for b := range 256 {
		for _, s := range []string{"HERE", "aHERE", "HEREa", "aHEREb", strings.Repeat("a", 199) + "HERE"} {
			checkValues(t, b >= 32 && b <= 126, textValue(strings.ReplaceAll(s, "HERE", string([]byte{byte(b)}))))
		}
	}
	for _, n := range []int{math.MinInt, -1, 1, 3, 200, math.MaxInt} {
		checkValues(t, false, impl.Value{Kind: 3, Number: n}, impl.Value{Kind: 3, Number: n, Text: "a"})
		checkValues(t, false, impl.Value{Kind: 4, Number: n, Text: "a"}, impl.Value{Kind: 4, Number: n, Text: "at:"})
	}
	checkValues(t, true, symbolValue("a"), symbolValue("nil"), symbolValue("at:"), symbolValue("at:put:"), symbolValue("a:b:c:d:"), symbolValue("class:"), symbolValue(longName), symbolValue(longName+":"), symbolValue(strings.Repeat(longName+":", 4)))
	checkValues(t, false, symbolValue(""), symbolValue("at:put"), symbolValue(":"), symbolValue("a:b:c:d:e:"), symbolValue("1a"), symbolValue("a b"), symbolValue("#a"), symbolValue("++"), symbolValue("^"), symbolValue(longName+"a"), symbolValue("a"+longName+":"), symbolValue("é"))
	for _, s := range operators {
		checkValues(t, true, symbolValue(s))
	}
	for _, s := range words {
		checkValues(t, false, symbolValue(s))
		checkValues(t, true, symbolValue(s+":"), textValue(s))
	}
}

// sampleValues has all kinds with all extremes and texts, few of which are values.
func sampleValues() values {
	var list values
	for kind := -2; kind <= 10; kind++ {
		for _, n := range extremes() {
			for _, s := range sampleTexts() {
				list = append(list, impl.Value{Kind: kind, Number: n, Text: s})
			}
		}
	}
	return list
}

func TestValuesOfAllKinds(t *testing.T) {
	counts := map[bool]int{}
	for _, v := range sampleValues() {
		want := isValueByWords(v)
		counts[want]++
		checkValues(t, want, v)
	}
	if counts[true] < 150 || counts[false] < 10000 {
		t.Error(counts)
	}
	for _, kind := range []int{math.MinInt, -7, -1, 8, 9, 16, 256, 1 << 32, math.MaxInt} {
		checkValues(t, false, impl.Value{Kind: kind}, impl.Value{Kind: kind, Number: 1}, impl.Value{Kind: kind, Text: "a"})
	}
}

// checkSame compares SameValue of two values, in both orders.
func checkSame(t *testing.T, a, b impl.Value, want bool) {
	t.Helper()
	if got, turned := impl.SameValue(a, b), impl.SameValue(b, a); got != want || turned != want {
		t.Errorf("SameValue(%s, %s) = %v, turned %v", brief(a), brief(b), got, turned)
	}
}

func TestSameValues(t *testing.T) {
	for kind := -1; kind <= 9; kind++ {
		for _, n := range extremes() {
			for _, s := range []string{"", "a", "at:", "é", strings.Repeat("a", 201)} {
				v := impl.Value{Kind: kind, Number: n, Text: s}
				checkSame(t, v, impl.Value{Kind: kind, Number: n, Text: strings.Clone(s)}, true)
				checkSame(t, v, impl.Value{Kind: kind + 1, Number: n, Text: s}, false)
				checkSame(t, v, impl.Value{Kind: kind, Number: n ^ 1, Text: s}, false)
				checkSame(t, v, impl.Value{Kind: kind, Number: n ^ math.MinInt, Text: s}, false)
				checkSame(t, v, impl.Value{Kind: kind, Number: n, Text: s + "b"}, false)
				checkSame(t, v, impl.Value{Kind: kind, Number: n, Text: "B" + s}, false)
			}
		}
	}
	list := values{{}, boolValue(0), boolValue(1), intValue(0), intValue(1), textValue(""), textValue("a"), textValue("A"), symbolValue("a"), classValue(0), refValue(0), blockValue(0), classValue(1), refValue(1), blockValue(1), symbolValue(""), {Number: 1}, {Text: "a"}, {Kind: 1 << 32}, {Kind: math.MinInt}, textValue("a\x00"), textValue("\xff"), textValue("\xfe")}
	for i, a := range list {
		for j, b := range list {
			checkSame(t, a, b, i == j)
		}
	}
}

const sampleClasses = `
	class Point extends Object fields x y end
	class Inner extends Point fields z end
	class Failure extends Error fields code end
	class Other extends Failure end
	class Zero extends ZeroDivide end
	class empty extends Object end
	class Under extends Exception fields a b c d end
	main`

// sampleStore has the classes 16 to 22 and objects of each kind and of each
// class that can have plain ones. Each value that exists stands in some object.
func sampleStore() impl.Store {
	u, _ := impl.ParseUnit(sampleClasses)
	s := impl.Store{Classes: systemByWords(u).Classes, Ticks: 5, Budget: 10, Made: 20}
	s.Output = []string{"", "it's 'so'", strings.Repeat("~", 200), " "}
	s.Objects = []impl.Object{
		arrayOf(impl.Value{}, boolValue(0), boolValue(1), intValue(-999999999), textValue("it's"), symbolValue("at:put:"), classValue(22), refValue(15)),
		arrayOf(),
		plainOf(0, 0),
		plainOf(1, 1, -1, -1, 0), plainOf(2, 1, 4, 2, 1), plainOf(3, 1, -7, math.MaxInt, math.MinInt), plainOf(4, 1, 0, 0, 0),
		plainOf(16, 2), plainOf(17, 3),
		plainOf(18, 2, -1, -1, 0), plainOf(19, 2, 1, 1, 1), plainOf(20, 1, -1, -1, -1), plainOf(21, 0), plainOf(22, 5, 0, 1, 2),
		semaphoreOf(0), semaphoreOf(3, 0, 19, 0, math.MaxInt),
	}
	s.Objects[4].Fields[0] = textValue("division by zero")
	s.Objects[8].Fields = values{refValue(8), classValue(0), intValue(3)}
	return s
}

// copyOfStore copies a store with all its lists.
func copyOfStore(s impl.Store) impl.Store {
	s.Classes, s.Objects, s.Output = slices.Clone(s.Classes), slices.Clone(s.Objects), slices.Clone(s.Output)
	for i := range s.Classes {
		s.Classes[i].Fields = slices.Clone(s.Classes[i].Fields)
	}
	for i := range s.Objects {
		o := &s.Objects[i]
		o.Fields, o.Numbers = slices.Clone(o.Fields), slices.Clone(o.Numbers)
	}
	return s
}

// existsByWords says whether v is a value that exists in a store with blocks.
func existsByWords(s impl.Store, v impl.Value, blocks int) bool {
	most, isIndex := map[int]int{5: len(s.Classes), 6: len(s.Objects), 7: blocks}[v.Kind]
	return isValueByWords(v) && (!isIndex || v.Number < most)
}

// ancestors has a class and all above it.
func ancestors(s impl.Store, k int) []int {
	var list []int
	for ; k >= 0; k = s.Classes[k].Parent {
		list = append(list, k)
	}
	return list
}

// isObjectByWords says by the words of the document whether an object is right,
// but for the values of its fields.
func isObjectByWords(s impl.Store, o impl.Object) bool {
	switch o.Kind {
	case 1:
		if o.Class < 0 || o.Class > 4 && o.Class < 16 || o.Class >= len(s.Classes) {
			return false
		}
		numbers := map[bool]int{false: 0, true: 3}[slices.Contains(ancestors(s, o.Class), 1)]
		return len(o.Fields) == len(s.Classes[o.Class].Fields) && len(o.Numbers) == numbers
	case 2:
		return o.Class == 10 && len(o.Fields) <= 50 && len(o.Numbers) == 0
	case 3:
		return o.Class == 12 && len(o.Fields) == 0 && len(o.Numbers) > 0 && slices.Min(o.Numbers) >= 0
	}
	return false
}

// isStoreByWords says by the words of the document whether a store is one, with
// blocks of which there are so many.
func isStoreByWords(s impl.Store, blocks int) bool {
	if !areClassesByWords(s.Classes) || s.Made < len(s.Objects) || s.Made > 800 || len(s.Output) > 60 || s.Budget < 0 || s.Budget > 3000 || s.Ticks < 0 || s.Ticks > s.Budget {
		return false
	}
	for _, line := range s.Output {
		if len(line) > 200 || hasByteOutside(line) {
			return false
		}
	}
	for _, o := range s.Objects {
		if !isObjectByWords(s, o) {
			return false
		}
		for _, v := range o.Fields {
			if !existsByWords(s, v, blocks) {
				return false
			}
		}
	}
	return true
}

// checkStore compares IsStore, and whether ClassOf and PrintValue accept the
// store, which allow blocks.
func checkStore(t *testing.T, what string, s impl.Store, want, withBlocks bool) {
	t.Helper()
	if got := impl.IsStore(s); got != want || isStoreByWords(s, 0) != want || isStoreByWords(s, 1000) != withBlocks {
		t.Errorf("IsStore behind %s = %v, want %v: %s", what, got, want, brief(s))
	}
	class, text := -1, ""
	if withBlocks {
		class, text = 7, "nil"
	}
	if k, p := impl.ClassOf(s, impl.Value{}), impl.PrintValue(s, impl.Value{}); k != class || p != text {
		t.Errorf("ClassOf and PrintValue of nil behind %s = %d and %q, want %d and %q", what, k, p, class, text)
	}
}

// checkStores compares stores behind changes of the sample, each of which is
// made alone.
func checkStores(t *testing.T, want bool, changes ...func(*impl.Store)) {
	t.Helper()
	for i, change := range changes {
		s := sampleStore()
		change(&s)
		checkStore(t, "the change "+strconv.Itoa(i), s, want, want)
	}
}

// checkObjects puts objects behind those of the sample and in front of them.
func checkObjects(t *testing.T, want bool, list ...impl.Object) {
	t.Helper()
	for _, o := range list {
		behind, before := sampleStore(), sampleStore()
		behind.Objects = append(behind.Objects, o)
		before.Objects[0] = o
		checkStore(t, brief(o), behind, want, want)
		checkStore(t, brief(o), before, want, want)
	}
}

func TestStoresThatAreRight(t *testing.T) {
	builtin := systemByWords(impl.Unit{}).Classes
	checkStores(t, true, func(*impl.Store) {}, func(s *impl.Store) { s.Objects = nil }, func(s *impl.Store) { s.Output = nil }, func(s *impl.Store) { *s = impl.Store{Classes: s.Classes} }, func(s *impl.Store) { *s = impl.Store{Classes: builtin} },
		func(s *impl.Store) { s.Objects, s.Output = []impl.Object{}, []string{} })
	checkStores(t, false, func(s *impl.Store) { *s = impl.Store{} }, func(s *impl.Store) { s.Objects[3] = impl.Object{} })
	for i := range sampleStore().Objects {
		// The first object alone refers to one behind the first nine.
		checkStores(t, i > 0, func(s *impl.Store) { s.Objects, s.Objects[0] = s.Objects[:9], s.Objects[i] })
	}
}

func TestStoresWithOtherClasses(t *testing.T) {
	checkStores(t, false, func(s *impl.Store) { s.Classes = nil }, func(s *impl.Store) { s.Classes = s.Classes[:15] }, func(s *impl.Store) { s.Classes, s.Objects = s.Classes[:15], nil }, func(s *impl.Store) { s.Classes, s.Objects = nil, nil },
		func(s *impl.Store) { s.Classes = s.Classes[:16] }, func(s *impl.Store) { s.Classes = s.Classes[:22] }, func(s *impl.Store) { s.Classes[16].Name = "Error" }, func(s *impl.Store) { s.Classes[17].Name = "Point" }, func(s *impl.Store) { s.Classes[21].Name = "end" },
		func(s *impl.Store) { s.Classes[21].Name = "" }, func(s *impl.Store) { s.Classes[21].Parent = -1 }, func(s *impl.Store) { s.Classes[21].Parent = 21 }, func(s *impl.Store) { s.Classes[21].Parent = 22 }, func(s *impl.Store) { s.Classes[21].Parent = math.MaxInt },
		func(s *impl.Store) { s.Classes[17].Fields = []string{"y", "x", "z"} }, func(s *impl.Store) { s.Classes[17].Fields[2] = "x" }, func(s *impl.Store) { s.Classes[17].Fields[2] = "a:" }, func(s *impl.Store) { s.Classes[16].Fields[0] = "z" })
	for k := range 16 {
		checkStores(t, false, func(s *impl.Store) { s.Classes[k].Name += "s" }, func(s *impl.Store) { s.Classes[k].Parent++ }, func(s *impl.Store) { s.Classes[k].Fields = []string{"f"} }, func(s *impl.Store) { s.Classes[k] = impl.ClassInfo{} })
		checkStores(t, k < 5, func(s *impl.Store) {
			s.Classes[21].Parent, s.Objects = k, nil
			s.Classes[21].Fields = s.Classes[k].Fields
		})
	}
	checkStores(t, true, func(s *impl.Store) { s.Classes, s.Objects = s.Classes[:16], s.Objects[1:7] }, func(s *impl.Store) { s.Classes[21].Name = "self" }, func(s *impl.Store) { s.Classes[17].Fields[2] = "q" })
	for count := 1; count <= 20; count++ {
		checkStores(t, count == 1, func(s *impl.Store) {
			for i := range count {
				s.Classes = append(s.Classes, impl.ClassInfo{Name: "M" + strconv.Itoa(i)})
			}
		})
	}
	// An object needs as many fields and numbers as its class has now.
	checkStores(t, false, func(s *impl.Store) { s.Classes[21].Fields = []string{"f"} }, func(s *impl.Store) { s.Classes[17].Fields = s.Classes[17].Fields[:2] }, func(s *impl.Store) { s.Classes[21].Parent, s.Classes[21].Fields = 1, []string{"text"} }, func(s *impl.Store) { s.Classes[18].Parent = 0 })
}

func TestStoresWithOtherNumbers(t *testing.T) {
	for _, n := range append(extremes(), 3, 6, 11, 14, 17, 20, 799) {
		checkStores(t, n >= 16 && n <= 800, func(s *impl.Store) { s.Made = n })
		checkStores(t, n >= 0 && n <= 800, func(s *impl.Store) { s.Made, s.Objects = n, nil })
		checkStores(t, n >= 5 && n <= 3000, func(s *impl.Store) { s.Budget = n })
		checkStores(t, n >= 0 && n <= 3000, func(s *impl.Store) { s.Budget, s.Ticks = n, 0 }, func(s *impl.Store) { s.Budget, s.Ticks = 3000, n }, func(s *impl.Store) { s.Budget, s.Ticks = n, n })
		checkStores(t, n >= 0 && n <= 10, func(s *impl.Store) { s.Ticks = n })
		checkStores(t, n == 0, func(s *impl.Store) { s.Budget, s.Ticks = 0, n })
	}
	for _, count := range []int{17, 20, 21, 799, 800, 801, 5000} {
		for _, made := range []int{20, count - 1, count, count + 1, 800, 801} {
			checkStores(t, made >= count && made <= 800, func(s *impl.Store) {
				s.Made, s.Objects = made, append(s.Objects, slices.Repeat([]impl.Object{plainOf(0, 0)}, count-16)...)
			})
		}
	}
}

func TestStoresWithOtherOutput(t *testing.T) {
	for _, count := range []int{0, 1, 59, 60, 61, 62, 1000} {
		checkStores(t, count <= 60, func(s *impl.Store) { s.Output = slices.Repeat([]string{"line"}, count) }, func(s *impl.Store) { s.Output = make([]string, count) })
	}
	for _, line := range sampleTexts() {
		want := len(line) <= 200 && !hasByteOutside(line)
		for i := range 4 {
			checkStores(t, want, func(s *impl.Store) { s.Output[i] = line })
		}
	}
	for b := range 256 {
		line := string([]byte{'a', byte(b)})
		checkStores(t, b >= 32 && b <= 126, func(s *impl.Store) { s.Output[3] = line }, func(s *impl.Store) { s.Output = []string{line} })
	}
	checkStores(t, true, func(s *impl.Store) { s.Output = slices.Repeat([]string{strings.Repeat("'", 200)}, 60) })
	checkStores(t, false, func(s *impl.Store) { s.Output[0] = strings.Repeat("'", 201) })
}

func TestStoresWithOtherFields(t *testing.T) {
	right := values{{}, boolValue(0), boolValue(1), intValue(999999999), intValue(-999999999), textValue(""), textValue(strings.Repeat("a", 200)), symbolValue("+"), symbolValue("a:b:c:d:"), classValue(0), classValue(15), classValue(16), classValue(22), refValue(0), refValue(8), refValue(15)}
	wrong := values{{Number: 1}, {Text: "a"}, boolValue(2), boolValue(-1), intValue(1000000000), intValue(-1000000000), {Kind: 2, Text: "1"}, textValue(strings.Repeat("a", 201)), textValue("\n"), {Kind: 3, Number: 1}, symbolValue(""), symbolValue("end"), symbolValue("at:put"),
		{Kind: 4, Number: 1, Text: "a"}, classValue(-1), classValue(23), classValue(24), classValue(math.MaxInt), {Kind: 5, Text: "Object"}, refValue(-1), refValue(16), refValue(20), refValue(799), refValue(800), refValue(math.MaxInt), refValue(math.MinInt), {Kind: 6, Text: "a"},
		blockValue(-1), blockValue(1000), blockValue(math.MaxInt), blockValue(math.MinInt), {Kind: 7, Text: "a"}, {Kind: 8}, {Kind: -1}, {Kind: math.MaxInt}, {Kind: math.MinInt}}
	for i, o := range sampleStore().Objects {
		for j := range o.Fields {
			for _, v := range right {
				checkStores(t, true, func(s *impl.Store) { s.Objects[i].Fields[j] = v })
			}
			for _, v := range wrong {
				checkStores(t, false, func(s *impl.Store) { s.Objects[i].Fields[j] = v })
			}
			for _, n := range []int{0, 1, 20, 500, 999} {
				s := sampleStore()
				s.Objects[i].Fields[j] = blockValue(n)
				checkStore(t, "a block in a field", s, false, true)
			}
		}
	}
	// Each of many elements counts.
	for j := range 50 {
		fields := make(values, 50)
		checkObjects(t, true, arrayOf(fields...))
		fields[j] = refValue(17)
		checkObjects(t, false, arrayOf(fields...))
	}
	s := sampleStore()
	s.Objects = append(s.Objects, arrayOf(refValue(16)), arrayOf(refValue(0), refValue(16), classValue(22)))
	checkStore(t, "arrays in arrays", s, true, true)
	s.Objects[0].Fields[0] = blockValue(3)
	checkStore(t, "a block in an array in an array", s, false, true)
	for _, v := range []impl.Value{refValue(18), {Kind: 9}, blockValue(1000)} {
		s.Objects[0].Fields[0] = v
		checkStore(t, "something else in an array in an array", s, false, false)
	}
}

func TestStoresWithOtherPlainObjects(t *testing.T) {
	fields := map[int]int{0: 0, 1: 1, 2: 1, 3: 1, 4: 1, 16: 2, 17: 3, 18: 2, 19: 2, 20: 1, 21: 0, 22: 5}
	exceptions := []int{1, 2, 3, 4, 18, 19, 20, 22}
	for k := -3; k <= 40; k++ {
		want, exists := fields[k]
		numbers := 0
		if slices.Contains(exceptions, k) {
			numbers = 3
		}
		for n := range 10 {
			for m := range 6 {
				checkObjects(t, exists && n == want && m == numbers, plainOf(k, n, make([]int, m)...))
			}
		}
	}
	for _, k := range []int{math.MinInt, -1, 23, 1 << 32, math.MaxInt} {
		checkObjects(t, false, plainOf(k, 0), plainOf(k, 1, 0, 0, 0), plainOf(k, 1, -1, -1, 0))
	}
	for _, k := range exceptions {
		for _, n := range extremes() {
			checkObjects(t, true, plainOf(k, fields[k], n, -1, 0), plainOf(k, fields[k], -1, n, 0), plainOf(k, fields[k], -1, -1, n), plainOf(k, fields[k], n, n, n))
		}
		checkObjects(t, false, plainOf(k, fields[k]), plainOf(k, fields[k], -1), plainOf(k, fields[k], -1, -1), plainOf(k, fields[k], -1, -1, 0, 0), plainOf(k, fields[k]-1, -1, -1, 0), plainOf(k, fields[k]+1, -1, -1, 0))
	}
	for _, k := range []int{0, 16, 17, 21} {
		checkObjects(t, true, plainOf(k, fields[k]))
		checkObjects(t, false, plainOf(k, fields[k], 0), plainOf(k, fields[k], -1, -1, 0), plainOf(k, fields[k], 1, 2), plainOf(k, fields[k]+1))
	}
}

func TestStoresWithOtherArrays(t *testing.T) {
	for k := -3; k <= 40; k++ {
		o := arrayOf(intValue(1))
		o.Class = k
		checkObjects(t, k == 10, o)
		o.Fields = nil
		checkObjects(t, k == 10, o)
		o.Fields, o.Numbers = make(values, 1), []int{-1, -1, 0}
		checkObjects(t, false, o)
	}
	for _, k := range []int{math.MinInt, 10 - 1<<32, 10 + 1<<32, math.MaxInt} {
		checkObjects(t, false, impl.Object{Kind: 2, Class: k})
	}
	for _, n := range []int{0, 1, 2, 49, 50, 51, 52, 100, 800, 100000} {
		checkObjects(t, n <= 50, arrayOf(make(values, n)...))
	}
	for n := 1; n <= 5; n++ {
		o := arrayOf(intValue(1))
		o.Numbers = make([]int, n)
		checkObjects(t, false, o, impl.Object{Kind: 2, Class: 10, Numbers: o.Numbers})
	}
}

func TestStoresWithOtherSemaphores(t *testing.T) {
	for k := -3; k <= 40; k++ {
		o := semaphoreOf(0)
		o.Class = k
		checkObjects(t, k == 12, o)
		o.Numbers = []int{-1, -1, 0}
		checkObjects(t, false, o)
	}
	for _, n := range extremes() {
		checkObjects(t, n >= 0, semaphoreOf(n), semaphoreOf(0, n), semaphoreOf(n, 1), semaphoreOf(1, 2, n, 3), semaphoreOf(n, n, n))
	}
	checkObjects(t, true, semaphoreOf(make([]int, 1000)...), semaphoreOf(0, 1, 2, 2, 2))
	checkObjects(t, false, semaphoreOf(), impl.Object{Kind: 3, Class: 12, Fields: values{{}}}, semaphoreOf(append(make([]int, 1000), -1)...))
	for n := 1; n <= 4; n++ {
		o := semaphoreOf(0)
		o.Fields = make(values, n)
		checkObjects(t, false, o)
	}
}

func TestStoresWithOtherKindsOfObjects(t *testing.T) {
	for i, o := range sampleStore().Objects {
		for _, kind := range []int{math.MinInt, -1, 0, 1, 2, 3, 4, 5, 10, 12, 1 << 32, math.MaxInt} {
			checkStores(t, kind == o.Kind, func(s *impl.Store) { s.Objects[i].Kind = kind })
		}
	}
	checkObjects(t, false, impl.Object{}, impl.Object{Class: 10}, impl.Object{Class: 12, Numbers: []int{0}}, impl.Object{Kind: 4, Class: 10}, impl.Object{Kind: 4, Class: 12, Numbers: []int{0}}, impl.Object{Kind: -1})
	checkObjects(t, true, impl.Object{Kind: 1}, impl.Object{Kind: 2, Class: 10}, impl.Object{Kind: 3, Class: 12, Numbers: []int{0}})
}

// checkOf compares ClassOf and PrintValue.
func checkOf(t *testing.T, s impl.Store, v impl.Value, class int, text string) {
	t.Helper()
	if k := impl.ClassOf(s, v); k != class {
		t.Errorf("ClassOf(%s) = %d, want %d", brief(v), k, class)
	}
	if p := impl.PrintValue(s, v); p != text {
		t.Errorf("PrintValue(%s) = %s, want %s", brief(v), brief(p), brief(text))
	}
}

func TestClassesAndTextsOfValues(t *testing.T) {
	s := sampleStore()
	checkOf(t, s, impl.Value{}, 7, "nil")
	checkOf(t, s, boolValue(0), 6, "false")
	checkOf(t, s, boolValue(1), 6, "true")
	for _, n := range []int{-999999999, -12, -1, 0, 1, 7, 10, 12345, 999999999} {
		checkOf(t, s, intValue(n), 5, strconv.Itoa(n))
	}
	for text, want := range map[string]string{"": "''", "a": "'a'", "'": "''''", "''": "''''''", "it's": "'it''s'", " ": "' '", "nil": "'nil'", "#a (b) \"c\" [d]": "'#a (b) \"c\" [d]'", "~": "'~'", "'a'": "'''a'''", strings.Repeat("a", 198): "'" + strings.Repeat("a", 198) + "'"} {
		checkOf(t, s, textValue(text), 8, want)
	}
	for _, text := range append([]string{"a", "nil", "at:", "at:put:", "class:", "a:b:c:d:", longName, strings.Repeat(longName+":", 4)}, operators...) {
		checkOf(t, s, symbolValue(text), 9, "#"+text)
	}
	for k, name := range append(slices.Clone(builtinList), strings.Fields("Point Inner Failure Other Zero empty Under")...) {
		checkOf(t, s, classValue(k), 15, name)
	}
	for i, text := range []string{"(nil false true -999999999 'it''s' #at:put: Under a Semaphore)", "()", "an Object", "an Exception", "an Error", "a MessageNotUnderstood", "a ZeroDivide", "a Point", "an Inner", "a Failure", "an Other", "a Zero", "a empty", "an Under", "a Semaphore", "a Semaphore"} {
		checkOf(t, s, refValue(i), []int{10, 10, 0, 1, 2, 3, 4, 16, 17, 18, 19, 20, 21, 22, 12, 12}[i], text)
	}
	for i := range 1000 {
		checkOf(t, s, blockValue(i), 11, "a Block")
	}
}

func TestClassesAndTextsOfNothing(t *testing.T) {
	s := sampleStore()
	for _, v := range []impl.Value{classValue(23), classValue(24), classValue(math.MaxInt), refValue(16), refValue(20), refValue(800), refValue(math.MaxInt), blockValue(1000), blockValue(1001), blockValue(math.MaxInt)} {
		checkValues(t, true, v)
		checkOf(t, s, v, -1, "")
	}
	for _, v := range sampleValues() {
		if !isValueByWords(v) {
			checkOf(t, s, v, -1, "")
		}
	}
	empty := impl.Store{Classes: systemByWords(impl.Unit{}).Classes}
	checkOf(t, empty, classValue(15), 15, "Class")
	checkOf(t, empty, blockValue(999), 11, "a Block")
	checkOf(t, empty, classValue(16), -1, "")
	checkOf(t, empty, refValue(0), -1, "")
	for i, v := range []impl.Value{{}, boolValue(1), intValue(3), textValue("a"), symbolValue("a"), classValue(0), blockValue(0), refValue(0), refValue(14)} {
		for _, spoil := range []func(*impl.Store){
			func(s *impl.Store) { s.Made = 15 }, func(s *impl.Store) { s.Ticks = 11 }, func(s *impl.Store) { s.Output[0] = "\n" }, func(s *impl.Store) { s.Classes[3].Name = "Q" }, func(s *impl.Store) { s.Classes = nil }, func(s *impl.Store) { *s = impl.Store{} },
			func(s *impl.Store) { s.Objects[5].Numbers = nil }, func(s *impl.Store) { s.Objects[0].Fields[0] = refValue(16) }, func(s *impl.Store) { s.Objects[0].Fields[0] = blockValue(1000) }, func(s *impl.Store) { s.Objects[0].Fields[0] = blockValue(-1) },
		} {
			spoiled := sampleStore()
			checkOf(t, spoiled, v, []int{7, 6, 5, 8, 9, 15, 11, 10, 12}[i], []string{"nil", "true", "3", "'a'", "#a", "Object", "a Block", "(nil false true -999999999 'it''s' #at:put: Under a Semaphore)", "a Semaphore"}[i])
			spoil(&spoiled)
			checkOf(t, spoiled, v, -1, "")
		}
	}
}

func TestArticlesOfClasses(t *testing.T) {
	for c := 'A'; c <= 'z'; c++ {
		if c > 'Z' && c < 'a' {
			continue
		}
		for _, rest := range []string{"", "x", "a", "E1", "aaaaaaaaaaaaaaaaaaa"} {
			name := string(c) + rest
			want := "a " + name
			if c == 'A' || c == 'E' || c == 'I' || c == 'O' || c == 'U' {
				want = "an " + name
			}
			s := impl.Store{Classes: append(systemByWords(impl.Unit{}).Classes, impl.ClassInfo{Name: name}, impl.ClassInfo{Name: "Next", Parent: 16}), Objects: []impl.Object{plainOf(16, 0), arrayOf(refValue(0), classValue(16), refValue(2)), plainOf(17, 0)}, Made: 3}
			checkOf(t, s, refValue(0), 16, want)
			checkOf(t, s, classValue(16), 15, name)
			checkOf(t, s, refValue(1), 10, "("+want+" "+name+" a Next)")
		}
	}
}

// storeOf is a store with these objects, in which the classes are those of the
// sample.
func storeOf(objects ...impl.Object) impl.Store {
	s := sampleStore()
	return impl.Store{Classes: s.Classes, Objects: objects, Made: len(objects)}
}

func TestBlocksInStores(t *testing.T) {
	for _, n := range []int{0, 1, 2, 998, 999} {
		s := storeOf(arrayOf(blockValue(n), intValue(1), blockValue(n)), arrayOf(refValue(0)), plainOf(16, 2), plainOf(2, 1, -1, -1, 0))
		s.Objects[2].Fields[1], s.Objects[3].Fields[0] = blockValue(n), blockValue(999-n)
		checkStore(t, "blocks", s, false, true)
		checkOf(t, s, refValue(0), 10, "(a Block 1 a Block)")
		checkOf(t, s, refValue(1), 10, "((a Block 1 a Block))")
		checkOf(t, s, refValue(2), 16, "a Point")
		checkOf(t, s, refValue(3), 2, "an Error")
		checkOf(t, s, blockValue(n), 11, "a Block")
		checkOf(t, s, blockValue(1000), -1, "")
		checkOf(t, s, refValue(4), -1, "")
	}
	for _, v := range []impl.Value{blockValue(1000), blockValue(-1), blockValue(math.MaxInt), {Kind: 7, Text: "a"}} {
		for i := range 3 {
			s := storeOf(arrayOf(blockValue(1)), plainOf(16, 2), plainOf(2, 1, -1, -1, 0))
			s.Objects[i].Fields[0] = v
			checkStore(t, "wrong blocks", s, false, false)
			checkOf(t, s, refValue(0), -1, "")
			checkOf(t, s, blockValue(1), -1, "")
		}
	}
}

// printed is an object and its text.
type printed struct {
	object impl.Object
	text   string
}

// checkPrinted compares the texts of objects that refer to each other by their
// places.
func checkPrinted(t *testing.T, list ...printed) {
	t.Helper()
	s := storeOf()
	for _, p := range list {
		s.Objects = append(s.Objects, p.object)
	}
	s.Made = len(list)
	for i, p := range list {
		checkOf(t, s, refValue(i), p.object.Class, p.text)
	}
}

func TestTextsOfArrays(t *testing.T) {
	checkPrinted(t,
		printed{arrayOf(), "()"},
		printed{arrayOf(intValue(1)), "(1)"},
		printed{arrayOf(impl.Value{}, textValue("a b"), symbolValue("+")), "(nil 'a b' #+)"},
		printed{arrayOf(refValue(0)), "(())"},
		printed{arrayOf(refValue(0), refValue(0), refValue(1)), "(() () (1))"},
		printed{arrayOf(refValue(4), intValue(2), refValue(4)), "((() () (1)) 2 (() () (1)))"})
	checkPrinted(t,
		printed{arrayOf(), "()"},
		printed{arrayOf(refValue(0)), "(())"},
		printed{arrayOf(refValue(1)), "((()))"},
		printed{arrayOf(refValue(2)), "(((...)))"},
		printed{arrayOf(refValue(3)), "(((...)))"},
		printed{arrayOf(refValue(2), refValue(1), refValue(0), intValue(-5), refValue(2)), "(((...)) (()) () -5 ((...)))"},
		printed{arrayOf(refValue(5), refValue(1)), "(((...) (...) () -5 (...)) (()))"})
	// Nothing else is "..." inside of three arrays.
	for _, p := range []printed{{plainOf(0, 0), "an Object"}, {plainOf(2, 1, -1, -1, 0), "an Error"}, {semaphoreOf(2), "a Semaphore"}, {plainOf(16, 2), "a Point"}} {
		inArray := "(" + p.text + " a Block '''' Array)"
		checkPrinted(t, p,
			printed{arrayOf(refValue(0), blockValue(7), textValue("'"), classValue(10)), inArray},
			printed{arrayOf(refValue(1)), "(" + inArray + ")"},
			printed{arrayOf(refValue(2)), "((" + inArray + "))"},
			printed{arrayOf(refValue(3)), "(((...)))"},
			printed{arrayOf(refValue(3), refValue(0), refValue(2), refValue(1)), "(((...)) " + p.text + " (" + inArray + ") " + inArray + ")"})
	}
}

func TestTextsOfArraysInThemselves(t *testing.T) {
	checkPrinted(t, printed{arrayOf(refValue(0)), "(((...)))"})
	checkPrinted(t, printed{arrayOf(intValue(1), refValue(0)), "(1 (1 (1 ...)))"})
	checkPrinted(t, printed{arrayOf(refValue(0), intValue(1)), "(((... 1) 1) 1)"})
	checkPrinted(t, printed{arrayOf(refValue(0), refValue(0)), "(((... ...) (... ...)) ((... ...) (... ...)))"})
	checkPrinted(t, printed{arrayOf(refValue(1)), "(((...)))"}, printed{arrayOf(refValue(0)), "(((...)))"})
	checkPrinted(t, printed{arrayOf(intValue(1), refValue(1)), "(1 ((1 ...) 2))"}, printed{arrayOf(refValue(0), intValue(2)), "((1 (... 2)) 2)"})
	checkPrinted(t,
		printed{arrayOf(symbolValue("a"), refValue(1)), "(#a (#b (#c ...)))"},
		printed{arrayOf(symbolValue("b"), refValue(2)), "(#b (#c (#a ...)))"},
		printed{arrayOf(symbolValue("c"), refValue(0)), "(#c (#a (#b ...)))"})
	// An object that is no array has no elements to print, even if it has itself.
	own := plainOf(16, 2)
	own.Fields = values{refValue(0), refValue(1)}
	checkPrinted(t, printed{own, "a Point"}, printed{arrayOf(refValue(0), refValue(1), refValue(0)), "(a Point (a Point (a Point ... a Point) a Point) a Point)"})
	full := arrayOf(slices.Repeat(values{refValue(0)}, 50)...)
	checkPrinted(t, printed{full, "(((" + strings.Repeat("... ", 50)[:197]})
}

// cut is what remains of a text.
func cut(s string) string {
	return s[:min(len(s), 200)]
}

func TestTextsThatAreCut(t *testing.T) {
	s := storeOf()
	for n := range 201 {
		text := strings.Repeat("'", n)
		checkOf(t, s, textValue(text), 8, cut("'"+text+text+"'"))
		for _, text := range []string{strings.Repeat("a", n), "'" + strings.Repeat("b", max(0, n-1)), strings.Repeat("c", max(0, n-1)) + "'"} {
			checkOf(t, s, textValue(text), 8, cut("'"+strings.ReplaceAll(text, "'", "''")+"'"))
		}
	}
	checkOf(t, s, textValue(strings.Repeat("a", 198)), 8, "'"+strings.Repeat("a", 198)+"'")
	checkOf(t, s, textValue(strings.Repeat("a", 199)), 8, "'"+strings.Repeat("a", 199))
	checkOf(t, s, textValue(strings.Repeat("a", 200)), 8, "'"+strings.Repeat("a", 199))
	checkOf(t, s, textValue(strings.Repeat("'", 99)), 8, strings.Repeat("'", 200))
	checkOf(t, s, textValue(strings.Repeat("'", 100)), 8, strings.Repeat("'", 200))
	checkOf(t, s, textValue(strings.Repeat("a", 198)+"'"), 8, "'"+strings.Repeat("a", 198)+"'")
}

// TestArraysThatAreCut has arrays of any length around the one at which they
// are cut, alone and at all places inside of others.
func TestArraysThatAreCut(t *testing.T) {
	for n := 180; n <= 200; n++ {
		a := strings.Repeat("a", n)
		inside := cut("('" + a + "')")
		inTwo := cut("(" + inside + ")")
		inThree := cut("(" + inTwo + ")")
		checkPrinted(t,
			printed{arrayOf(textValue(a)), inside},
			printed{arrayOf(refValue(0)), inTwo},
			printed{arrayOf(refValue(1)), inThree},
			printed{arrayOf(refValue(2)), "(((...)))"},
			printed{arrayOf(refValue(0), intValue(7)), cut("(" + inside + " 7)")},
			printed{arrayOf(intValue(7), refValue(0)), cut("(7 " + inside + ")")},
			printed{arrayOf(refValue(4), refValue(4)), cut("(" + cut("("+inside+" 7)") + " " + cut("("+inside+" 7)") + ")")},
			printed{arrayOf(intValue(7), refValue(5), intValue(8)), cut("(7 " + cut("(7 "+inside+")") + " 8)")},
			printed{arrayOf(textValue(a), impl.Value{}, refValue(0)), cut("('" + a + "' nil " + inside + ")")})
	}
	a := strings.Repeat("a", 195)
	checkPrinted(t, printed{arrayOf(textValue(a)), "('" + a + "')"}, printed{arrayOf(refValue(0)), "(('" + a + "')"}, printed{arrayOf(refValue(1)), "((('" + a + "'"}, printed{arrayOf(textValue(a), intValue(7)), "('" + a + "' 7"})
	a = strings.Repeat("a", 196)
	checkPrinted(t, printed{arrayOf(textValue(a)), "('" + a + "')"}, printed{arrayOf(textValue(a), intValue(7)), "('" + a + "' "}, printed{arrayOf(refValue(0)), "(('" + a + "'"})
	a = strings.Repeat("a", 197)
	checkPrinted(t, printed{arrayOf(textValue(a)), "('" + a + "'"}, printed{arrayOf(textValue(a), intValue(7)), "('" + a + "'"})
	checkPrinted(t, printed{arrayOf(textValue(a + "a")), "('" + a + "a"}, printed{arrayOf(textValue(a + "aa")), "('" + a + "a"}, printed{arrayOf(textValue(a + "aaa")), "('" + a + "a"})
	// 50 elements of three bytes and their separators are 201 bytes.
	digits := slices.Repeat(values{intValue(123)}, 50)
	checkPrinted(t, printed{arrayOf(digits...), ("(" + strings.Repeat("123 ", 50))[:200]}, printed{arrayOf(digits[:49]...), "(" + strings.Repeat("123 ", 48) + "123)"})
	digits[7] = intValue(12)
	checkPrinted(t, printed{arrayOf(digits...), "(" + strings.Repeat("123 ", 7) + "12 " + strings.Repeat("123 ", 41) + "123)"})
	for n := range 51 {
		empty := "(" + strings.TrimSuffix(strings.Repeat("() ", n), " ") + ")"
		around := cut("(" + strings.TrimSuffix(strings.Repeat(empty+" ", n), " ") + ")")
		dots := "(" + strings.TrimSuffix(strings.Repeat("... ", n), " ") + ")"
		twice := cut("(" + strings.TrimSuffix(strings.Repeat(cut("("+strings.TrimSuffix(strings.Repeat(cut(dots)+" ", n), " ")+")")+" ", n), " ") + ")")
		checkPrinted(t, printed{arrayOf(), "()"}, printed{arrayOf(slices.Repeat(values{refValue(0)}, n)...), empty}, printed{arrayOf(slices.Repeat(values{refValue(1)}, n)...), around}, printed{arrayOf(slices.Repeat(values{refValue(2)}, n)...), twice})
	}
}

// classByWords is the class of a value that exists.
func classByWords(s impl.Store, v impl.Value) int {
	if v.Kind == 6 {
		return s.Objects[v.Number].Class
	}
	name := []string{"Nil", "Boolean", "Integer", "String", "Symbol", "Class", "", "Block"}[v.Kind]
	return slices.Index(builtinList, name)
}

// printByWords is the text of a value that exists, inside of so many arrays.
func printByWords(s impl.Store, v impl.Value, arrays int) string {
	switch v.Kind {
	case 0:
		return "nil"
	case 1:
		return strconv.FormatBool(v.Number == 1)
	case 2:
		return strconv.Itoa(v.Number)
	case 3:
		return cut("'" + strings.ReplaceAll(v.Text, "'", "''") + "'")
	case 4:
		return "#" + v.Text
	case 5:
		return s.Classes[v.Number].Name
	}
	if v.Kind == 7 || s.Objects[v.Number].Kind != 2 {
		name := s.Classes[classByWords(s, v)].Name
		if strings.TrimLeft(name, "AEIOU") != name {
			return "an " + name
		}
		return "a " + name
	}
	if arrays == 3 {
		return "..."
	}
	var parts []string
	for _, element := range s.Objects[v.Number].Fields {
		parts = append(parts, printByWords(s, element, arrays+1))
	}
	return cut("(" + strings.Join(parts, " ") + ")")
}

// checkByWords compares all functions of the chapter with the second reading,
// for a store and some values, and reports whether it is one for IsStore, and
// whether it is one with blocks.
func checkByWords(t *testing.T, s impl.Store, list ...impl.Value) (bool, bool) {
	t.Helper()
	plain, withBlocks := isStoreByWords(s, 0), isStoreByWords(s, 1000)
	checkStore(t, "changes", s, plain, withBlocks)
	for _, v := range list {
		checkValues(t, isValueByWords(v), v)
		if withBlocks && existsByWords(s, v, 1000) {
			checkOf(t, s, v, classByWords(s, v), printByWords(s, v, 0))
		} else {
			checkOf(t, s, v, -1, "")
		}
	}
	return plain, withBlocks
}

// storeMaker makes stores that are mostly right.
type storeMaker struct {
	maker
	sample impl.Store
}

func newStoreMaker(seed int64) storeMaker {
	return storeMaker{maker{rand.New(rand.NewSource(seed))}, sampleStore()}
}

// value makes a value for a store with so many objects.
func (m storeMaker) value(objects int) impl.Value {
	if m.Intn(300) == 0 {
		list := extremes()
		return impl.Value{Kind: m.Intn(11) - 1, Number: list[m.Intn(len(list))], Text: m.pick(sampleTexts()...)}
	}
	switch kind := m.Intn(14); {
	case kind < 3:
		return values{{}, boolValue(0), boolValue(1)}[kind]
	case kind == 3:
		return intValue(m.Intn(2000) - 1000)
	case kind == 4:
		return textValue(m.pick("", "a", "it's", strings.Repeat("a", m.Intn(201))))
	case kind == 5:
		return symbolValue(m.pick("a", "at:put:", "+", longName))
	case kind == 6:
		return classValue(m.Intn(23))
	case kind == 7 && m.Intn(10) == 0:
		return blockValue(m.Intn(1000))
	}
	return refValue(m.Intn(objects))
}

// object makes an object for a store with so many objects.
func (m storeMaker) object(objects int) impl.Object {
	o := m.sample.Objects[m.Intn(len(m.sample.Objects))]
	o.Fields, o.Numbers = slices.Clone(o.Fields), slices.Clone(o.Numbers)
	if m.Intn(3) > 0 {
		o = arrayOf(make(values, m.Intn(8))...)
	}
	if m.Intn(20) == 0 {
		o = arrayOf(make(values, 46+m.Intn(5))...)
	}
	for i := range o.Fields {
		o.Fields[i] = m.value(objects)
	}
	return o
}

func (m storeMaker) store() impl.Store {
	s := copyOfStore(m.sample)
	objects := 1 + m.Intn(20)
	s.Objects, s.Made = nil, objects+m.Intn(3)
	for range objects {
		s.Objects = append(s.Objects, m.object(objects))
	}
	for range m.Intn(4) * m.Intn(2) * m.Intn(2) {
		m.change(&s)
	}
	return s
}

// change changes one thing in a store.
func (m storeMaker) change(s *impl.Store) {
	list := extremes()
	n := list[m.Intn(len(list))]
	o := &s.Objects[m.Intn(len(s.Objects))]
	switch m.Intn(12) {
	case 0:
		s.Made = n
	case 1:
		s.Ticks = n
	case 2:
		s.Budget = n
	case 3:
		s.Output = append(s.Output, m.pick(sampleTexts()...))
	case 4:
		s.Classes = s.Classes[:m.Intn(len(s.Classes)+1)]
	case 5:
		s.Classes = append(s.Classes, impl.ClassInfo{Name: m.pick("Q", "Point", "end"), Parent: m.Intn(6)})
	case 6:
		o.Kind = m.Intn(5)
	case 7:
		o.Class = m.Intn(25) - 1
	case 8:
		o.Numbers = append(slices.Clone(o.Numbers), n)
	case 9:
		o.Numbers = nil
	case 10:
		o.Fields = append(slices.Clone(o.Fields), m.value(len(s.Objects)))
	case 11:
		o.Fields = o.Fields[min(1, len(o.Fields)):]
	}
}

func TestMadeStores(t *testing.T) {
	m := newStoreMaker(10)
	counts := map[string]int{}
	for range 6000 {
		s := m.store()
		list := values{m.value(len(s.Objects)), m.value(40), refValue(len(s.Objects)), refValue(m.Intn(len(s.Objects))), refValue(0)}
		switch plain, withBlocks := checkByWords(t, s, list...); {
		case plain:
			counts["store"]++
		case withBlocks:
			counts["with blocks"]++
		default:
			counts["no store"]++
		}
		if text := impl.PrintValue(s, refValue(0)); len(text) == 200 {
			counts["cut"]++
		} else if strings.Contains(text, "...") {
			counts["deep"]++
		}
	}
	for _, what := range []string{"store", "with blocks", "no store", "cut", "deep"} {
		if counts[what] < 200 {
			t.Error(counts)
		}
	}
}

// TestLargeStores has the most and largest objects, which print without delay.
func TestLargeStores(t *testing.T) {
	for _, v := range []impl.Value{{}, textValue(strings.Repeat("'", 200)), symbolValue(strings.Repeat(longName+":", 4)), classValue(22), refValue(799), refValue(0)} {
		s := sampleStore()
		s.Objects, s.Made = nil, 800
		for range 800 {
			s.Objects = append(s.Objects, arrayOf(slices.Repeat(values{v}, 50)...))
		}
		checkStore(t, "large arrays", s, true, true)
		want := "((" + strings.Repeat("... ", 50)
		if v.Kind != impl.ValueRef {
			want = printByWords(s, v, 1)
		}
		for i := range 4 {
			checkOf(t, s, refValue(i*266), 10, cut("("+strings.Repeat(want+" ", 50)))
		}
		s.Objects[799].Fields[49] = blockValue(5)
		checkStore(t, "large arrays with a block", s, false, true)
		s.Objects[799].Fields[49] = refValue(800)
		checkStore(t, "large arrays with a wrong value", s, false, false)
	}
}

// roomyStore returns a store whose lists have spare room with something in it.
func roomyStore(s impl.Store) impl.Store {
	s = copyOfStore(s)
	for i := range s.Classes {
		s.Classes[i].Fields = roomyList(s.Classes[i].Fields, "spare", "room")
	}
	for i := range s.Objects {
		o := &s.Objects[i]
		o.Fields, o.Numbers = roomyList(o.Fields, intValue(77), textValue("spare")), roomyList(o.Numbers, 78, 79)
	}
	s.Classes = roomyList(s.Classes, impl.ClassInfo{Name: "Spare"})
	s.Objects = roomyList(s.Objects, plainOf(16, 2), arrayOf(refValue(99)))
	s.Output = roomyList(s.Output, "spare", "\n")
	return s
}

// wholeOfStore returns a copy of a store with all that its lists have room for.
func wholeOfStore(s impl.Store) impl.Store {
	s.Classes, s.Objects, s.Output = slices.Clone(s.Classes[:cap(s.Classes)]), slices.Clone(s.Objects[:cap(s.Objects)]), slices.Clone(s.Output[:cap(s.Output)])
	for i := range s.Classes {
		s.Classes[i].Fields = slices.Clone(s.Classes[i].Fields[:cap(s.Classes[i].Fields)])
	}
	for i := range s.Objects {
		o := &s.Objects[i]
		o.Fields, o.Numbers = slices.Clone(o.Fields[:cap(o.Fields)]), slices.Clone(o.Numbers[:cap(o.Numbers)])
	}
	return s
}

func TestStoresAreNotModified(t *testing.T) {
	m := newStoreMaker(11)
	list := []impl.Store{{}, sampleStore()}
	for range 300 {
		list = append(list, m.store())
	}
	for _, s := range list {
		s = roomyStore(s)
		before := wholeOfStore(s)
		asked := values{{}, intValue(5), textValue("it's"), classValue(16), blockValue(3), refValue(0), refValue(3), refValue(50), {Kind: 9}}
		texts := make([]string, len(asked))
		for range 2 {
			checkByWords(t, s, asked...)
			for i, v := range asked {
				impl.SameValue(v, asked[0])
				texts[i] = impl.PrintValue(s, v)
			}
		}
		if !reflect.DeepEqual(wholeOfStore(s), before) {
			t.Errorf("%s is modified", brief(before))
		}
		// The store is changed, but not what it has given.
		wanted := slices.Clone(texts)
		for _, o := range s.Objects {
			clear(o.Fields)
		}
		clear(s.Classes)
		clear(s.Objects)
		impl.PrintValue(s, impl.Value{})
		if !slices.Equal(texts, wanted) {
			t.Errorf("the texts of %s share memory with it", brief(before))
		}
	}
}
