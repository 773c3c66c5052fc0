package tests

import (
	"math"
	"math/big"
	"math/rand"
	"slices"
	"strconv"
	"strings"
	"testing"

	"loop.example/g03108/impl"
)

var (
	messageIsMissing = impl.Result{Code: impl.PrimMissing}
	divisionByZero   = impl.Result{Code: impl.PrimZero, Text: "division by zero"}
)

func gives(v impl.Value) impl.Result  { return impl.Result{Value: v} }
func says(problem string) impl.Result { return impl.Result{Code: impl.PrimError, Text: problem} }
func numberOfBool(b bool) int         { return map[bool]int{true: 1}[b] }
func givesBool(b bool) impl.Result    { return gives(boolValue(numberOfBool(b))) }
func givesNil() impl.Result           { return gives(impl.Value{}) }
func bytesOf(s string, n int) string  { return strings.Repeat(s, n)[:n] }
func isInBounds(n *big.Int) bool      { return n.CmpAbs(big.NewInt(999999999)) <= 0 }

// The messages of each kind, without and with an argument.
var (
	numberMessages = []string{"+", "-", "*", "//", `\\`, "<", ">", "<=", ">=", "max:", "min:"}
	aloneMessages  = map[int][]string{0: nil, 1: {"not"}, 2: {"negated", "abs"}, 3: {"size", "asSymbol", "asInteger"}, 4: {"asString"}}
	argMessages    = map[int][]string{0: nil, 1: {"&"}, 2: numberMessages, 3: {",", "<", "at:"}, 4: nil}
)

// numberByWords says what an integer gives for a message with another one.
func numberByWords(n int, selector string, m int) impl.Result {
	a, b, sum := big.NewInt(int64(n)), big.NewInt(int64(m)), new(big.Int)
	switch selector {
	case "+":
		sum.Add(a, b)
	case "-":
		sum.Sub(a, b)
	case "*":
		sum.Mul(a, b)
	case "//", `\\`:
		if m == 0 {
			return divisionByZero
		}
		// No quotient of values is so near to an integer that it is rounded to one.
		floor := int(math.Floor(float64(n) / float64(m)))
		return gives(intValue(map[string]int{"//": floor, `\\`: n - m*floor}[selector]))
	case "max:", "min:":
		sorted := []int{n, m}
		slices.Sort(sorted)
		return gives(intValue(sorted[numberOfBool(selector == "max:")]))
	default:
		holds := map[int][]string{-1: {"<", "<="}, 0: {"<=", ">="}, 1: {">", ">="}}
		return givesBool(slices.Contains(holds[a.Cmp(b)], selector))
	}
	if !isInBounds(sum) {
		return says("overflow")
	}
	return gives(intValue(int(sum.Int64())))
}

// textByWords says what a text gives for a message with an argument.
func textByWords(v impl.Value, selector string, arg impl.Value) impl.Result {
	switch {
	case selector == "at:" && arg.Kind == 2:
		for i, b := range []byte(v.Text) {
			if i+1 == arg.Number {
				return gives(textValue(string([]byte{b})))
			}
		}
		return says("out of range")
	case selector == "at:":
		return says("out of range")
	case arg.Kind != 3:
		return says("not a text")
	case selector == "<":
		return givesBool(slices.Compare([]byte(v.Text), []byte(arg.Text)) < 0)
	case len(v.Text+arg.Text) > 200:
		return says("too long")
	}
	return gives(textValue(v.Text + arg.Text))
}

// aloneByWords says what a value gives for a message without an argument.
func aloneByWords(v impl.Value, selector string) impl.Result {
	switch selector {
	case "not":
		return givesBool(v.Number == 0)
	case "negated":
		return gives(intValue(0 - v.Number))
	case "abs":
		if v.Number < 0 {
			return gives(intValue(0 - v.Number))
		}
		return gives(v)
	case "size":
		return gives(intValue(len([]byte(v.Text))))
	case "asSymbol":
		if impl.CountArgs(v.Text) < 0 {
			return says("not a selector")
		}
		return gives(symbolValue(v.Text))
	case "asInteger":
		n, err := strconv.Atoi(v.Text)
		if err != nil || strconv.Itoa(n) != v.Text || n > 999999999 || n < -999999999 {
			return givesNil()
		}
		return gives(intValue(n))
	}
	return gives(textValue(v.Text))
}

// basicByWords says by the words of the document what a message gives.
func basicByWords(v impl.Value, selector string, args values) impl.Result {
	isWrong := func(v impl.Value) bool { return !isValueByWords(v) }
	if isWrong(v) || v.Kind > 4 || slices.ContainsFunc(args, isWrong) {
		return messageIsMissing
	}
	switch {
	case len(args) == 0 && slices.Contains(aloneMessages[v.Kind], selector):
		return aloneByWords(v, selector)
	case len(args) != 1 || !slices.Contains(argMessages[v.Kind], selector):
		return messageIsMissing
	case v.Kind == 3:
		return textByWords(v, selector, args[0])
	case v.Kind == 2 && args[0].Kind == 2:
		return numberByWords(v.Number, selector, args[0].Number)
	case v.Kind == 2:
		return says("not a number")
	case args[0].Kind != 1:
		return says("not a boolean")
	}
	return givesBool(v.Number == 1 && args[0].Number == 1)
}

// checkBasic compares BasicMessage, and the second reading, with what is wanted.
func checkBasic(t *testing.T, v impl.Value, selector string, args values, want impl.Result) {
	t.Helper()
	if got := impl.BasicMessage(v, selector, args); got != want {
		t.Errorf("%s %.100q %s = %s, want %s", brief(v), selector, brief(args), brief(got), brief(want))
	}
	if got := basicByWords(v, selector, args); got != want {
		t.Errorf("by words %s %.100q %s = %s, want %s", brief(v), selector, brief(args), brief(got), brief(want))
	}
}

// checkReading compares BasicMessage with the second reading.
func checkReading(t *testing.T, v impl.Value, selector string, args ...impl.Value) impl.Result {
	t.Helper()
	want := basicByWords(v, selector, args)
	checkBasic(t, v, selector, args, want)
	return want
}

// checkMissing looks for messages that are not there.
func checkMissing(t *testing.T, v impl.Value, selector string, args ...impl.Value) {
	t.Helper()
	checkBasic(t, v, selector, args, messageIsMissing)
}

// written reads a value without spaces.
func written(s string) impl.Value {
	simple := map[string]impl.Value{"nil": {}, "false": boolValue(0), "true": boolValue(1)}
	if v, found := simple[s]; found {
		return v
	}
	if text, ok := strings.CutPrefix(s, "'"); ok {
		return textValue(strings.TrimSuffix(text, "'"))
	}
	if text, ok := strings.CutPrefix(s, "#"); ok {
		return symbolValue(text)
	}
	for kind, word := range map[int]string{5: "class", 6: "object", 7: "block"} {
		if n, err := strconv.Atoi(strings.TrimPrefix(s, word)); err == nil && strings.HasPrefix(s, word) {
			return impl.Value{Kind: kind, Number: n}
		}
	}
	n, err := strconv.Atoi(s)
	if err != nil {
		panic(s + " is no value")
	}
	return intValue(n)
}

// writtenResult reads a result: a value, "zero", "missing", or ! and a problem.
func writtenResult(s string) impl.Result {
	if problem, ok := strings.CutPrefix(s, "!"); ok {
		return says(problem)
	}
	switch s {
	case "zero":
		return divisionByZero
	case "missing":
		return messageIsMissing
	}
	return gives(written(s))
}

// checkMessages reads lines of a value, a selector, arguments, => and a result.
func checkMessages(t *testing.T, lines string) {
	t.Helper()
	for line := range strings.Lines(strings.TrimSpace(lines)) {
		message, result, ok := strings.Cut(strings.TrimSpace(line), " => ")
		words := strings.Fields(message)
		if !ok || len(words) < 2 {
			t.Fatal(line)
		}
		var args values
		for _, word := range words[2:] {
			args = append(args, written(word))
		}
		checkBasic(t, written(words[0]), words[1], args, writtenResult(result))
	}
}

// otherKinds has values of all kinds but one.
func otherKinds(kind int) values {
	list := values{{}, boolValue(0), boolValue(1), intValue(0), intValue(1), intValue(5), intValue(-1), intValue(999999999), textValue(""), textValue("a"), textValue("0"), textValue("5"), textValue("true"), symbolValue("a"), symbolValue("at:"), symbolValue("+"),
		classValue(0), classValue(5), classValue(8), classValue(999), refValue(0), refValue(7), refValue(math.MaxInt), blockValue(0), blockValue(999), blockValue(1000000)}
	return slices.DeleteFunc(list, func(v impl.Value) bool { return v.Kind == kind })
}

// noValues has what is no value in different ways.
func noValues() values {
	return values{{Number: 1}, {Text: "a"}, {Number: -1, Text: "nil"}, boolValue(2), boolValue(-1), {Kind: 1, Number: 1, Text: "a"}, {Kind: 1, Text: "false"}, intValue(1000000000), intValue(-1000000000), intValue(math.MaxInt), intValue(math.MinInt), {Kind: 2, Number: 5, Text: "5"}, {Kind: 2, Text: "a"},
		{Kind: 3, Number: 1}, {Kind: 3, Number: 1, Text: "a"}, textValue("\n"), textValue("é"), textValue("\x7f"), textValue(bytesOf("a", 201)), symbolValue(""), symbolValue("class"), symbolValue("a b"), symbolValue("at:put"), {Kind: 4, Number: 1, Text: "a"},
		classValue(-1), {Kind: 5, Text: "a"}, refValue(-1), {Kind: 6, Number: 1, Text: "a"}, blockValue(-1), blockValue(math.MinInt), {Kind: 7, Text: " "}, {Kind: 8}, {Kind: -1}, {Kind: 2 + 1<<32, Number: 5}, {Kind: math.MaxInt}, {Kind: math.MinInt}}
}

// simpleOnes has values of each kind that has messages here, and nil.
func simpleOnes() values {
	return values{{}, boolValue(0), boolValue(1), intValue(0), intValue(5), intValue(-7), intValue(999999999), intValue(-999999999), textValue(""), textValue("a"), textValue("at:"), textValue("-12"), textValue(bytesOf("~", 200)), symbolValue("a"), symbolValue("at:put:"), symbolValue("//")}
}

// allMessages has all selectors of the chapter.
func allMessages() []string {
	var list []string
	for kind := range 5 {
		list = append(append(list, aloneMessages[kind]...), argMessages[kind]...)
	}
	slices.Sort(list)
	return slices.Compact(list)
}

func TestResultNumbers(t *testing.T) {
	got := []int{impl.PrimDone, impl.PrimMissing, impl.PrimError, impl.PrimZero, impl.PrimFull}
	if !slices.Equal(got, []int{0, 1, 2, 3, 4}) {
		t.Error(got)
	}
	if n := len(allMessages()); n != 21 {
		t.Error(n)
	}
}

func TestMessagesToIntegers(t *testing.T) {
	checkMessages(t, `
		5 + -3 => 2
		5 + 0 => 5
		5 + 3 => 8
		-5 + -3 => -8
		-5 + 5 => 0
		0 + 0 => 0
		5 - -3 => 8
		5 - 0 => 5
		5 - 3 => 2
		3 - 5 => -2
		0 - 5 => -5
		5 * -3 => -15
		5 * 0 => 0
		-5 * 0 => 0
		5 * 3 => 15
		-5 * -3 => 15
		5 max: -3 => 5
		-5 max: 0 => 0
		3 max: 5 => 5
		5 max: 3 => 5
		5 max: 5 => 5
		-5 max: -3 => -3
		5 min: -3 => -3
		-5 min: 0 => -5
		3 min: 5 => 3
		5 min: 3 => 3
		5 min: 5 => 5
		-5 min: -3 => -5
		5 negated => -5
		-5 negated => 5
		0 negated => 0
		999999999 negated => -999999999
		-999999999 negated => 999999999
		5 abs => 5
		-5 abs => 5
		0 abs => 0
		999999999 abs => 999999999
		-999999999 abs => 999999999`)
}

func TestComparisonsOfIntegers(t *testing.T) {
	for _, pair := range [][2]int{{-999999999, 999999999}, {-999999999, -999999998}, {999999998, 999999999}, {-1, 0}, {0, 1}, {-1, 1}, {-5, -3}, {3, 5}, {9, 10}, {-10, -9}} {
		low, high := intValue(pair[0]), intValue(pair[1])
		for _, selector := range []string{"<", "<="} {
			checkBasic(t, low, selector, values{high}, givesBool(true))
			checkBasic(t, high, selector, values{low}, givesBool(false))
		}
		for _, selector := range []string{">", ">="} {
			checkBasic(t, low, selector, values{high}, givesBool(false))
			checkBasic(t, high, selector, values{low}, givesBool(true))
		}
		for _, v := range []impl.Value{low, high} {
			checkBasic(t, v, "<", values{v}, givesBool(false))
			checkBasic(t, v, ">", values{v}, givesBool(false))
			checkBasic(t, v, "<=", values{v}, givesBool(true))
			checkBasic(t, v, ">=", values{v}, givesBool(true))
		}
		checkBasic(t, low, "max:", values{high}, gives(high))
		checkBasic(t, high, "max:", values{low}, gives(high))
		checkBasic(t, low, "min:", values{high}, gives(low))
		checkBasic(t, high, "min:", values{low}, gives(low))
	}
}

func TestIntegersAtTheirBounds(t *testing.T) {
	checkMessages(t, `
		999999998 + 1 => 999999999
		999999999 + 0 => 999999999
		999999999 + 1 => !overflow
		1 + 999999999 => !overflow
		999999999 + 999999999 => !overflow
		999999999 + -999999999 => 0
		-999999998 + -1 => -999999999
		-999999999 + 0 => -999999999
		-999999999 + -1 => !overflow
		-1 + -999999999 => !overflow
		-999999999 + -999999999 => !overflow
		999999998 - -1 => 999999999
		999999999 - 0 => 999999999
		999999999 - -1 => !overflow
		0 - -999999999 => 999999999
		0 - 999999999 => -999999999
		1 - -999999999 => !overflow
		-1 - 999999999 => !overflow
		-1 - 999999998 => -999999999
		-999999998 - 1 => -999999999
		-999999999 - 1 => !overflow
		-999999999 - -999999999 => 0
		999999999 - -999999999 => !overflow
		-999999999 - 999999999 => !overflow
		333333333 * 3 => 999999999
		333333333 * -3 => -999999999
		-333333333 * -3 => 999999999
		500000000 * 2 => !overflow
		500000000 * -2 => !overflow
		-500000000 * -2 => !overflow
		499999999 * 2 => 999999998
		31622 * 31622 => 999950884
		31623 * 31623 => !overflow
		65536 * 65536 => !overflow
		65536 * -65536 => !overflow
		65537 * 65536 => !overflow
		999999999 * 0 => 0
		999999999 * 1 => 999999999
		999999999 * -1 => -999999999
		-999999999 * -1 => 999999999
		999999999 * 2 => !overflow
		999999999 * 999999999 => !overflow
		999999999 * -999999999 => !overflow
		-999999999 * 999999999 => !overflow
		-999999999 * -999999999 => !overflow
		-999999999 max: 999999999 => 999999999
		-999999999 min: 999999999 => -999999999`)
}

func TestQuotientsAndRests(t *testing.T) {
	checkMessages(t, `
		7 // 2 => 3
		7 \\ 2 => 1
		-7 // 2 => -4
		-7 \\ 2 => 1
		7 // -2 => -4
		7 \\ -2 => -1
		-7 // -2 => 3
		-7 \\ -2 => -1
		8 // 2 => 4
		8 \\ 2 => 0
		-8 // 2 => -4
		-8 \\ 2 => 0
		8 // -2 => -4
		8 \\ -2 => 0
		-8 // -2 => 4
		-8 \\ -2 => 0
		8 // 3 => 2
		8 \\ 3 => 2
		-8 // 3 => -3
		-8 \\ 3 => 1
		8 // -3 => -3
		8 \\ -3 => -1
		-8 // -3 => 2
		-8 \\ -3 => -2
		0 // 3 => 0
		0 \\ 3 => 0
		0 // -3 => 0
		0 \\ -3 => 0
		2 // 3 => 0
		-2 // 3 => -1
		2 // -3 => -1
		-2 // -3 => 0
		-2 \\ 3 => 1
		2 \\ -3 => -1`)
}

func TestDivisionsAtTheirBounds(t *testing.T) {
	checkMessages(t, `
		7 // 0 => zero
		7 \\ 0 => zero
		-7 // 0 => zero
		-7 \\ 0 => zero
		0 // 0 => zero
		0 \\ 0 => zero
		999999999 // 0 => zero
		-999999999 \\ 0 => zero
		999999999 // 999999999 => 1
		999999999 \\ 999999999 => 0
		999999999 // -999999999 => -1
		-999999999 // 999999999 => -1
		-999999999 // -999999999 => 1
		-999999999 \\ -999999999 => 0
		999999999 // 1 => 999999999
		999999999 // -1 => -999999999
		-999999999 // 1 => -999999999
		-999999999 // -1 => 999999999
		-999999999 \\ -1 => 0
		999999999 // 2 => 499999999
		-999999999 // 2 => -500000000
		-999999999 \\ 2 => 1
		999999999 // -2 => -500000000
		999999999 \\ -2 => -1
		1 // 999999999 => 0
		1 \\ 999999999 => 1
		-1 // 999999999 => -1
		-1 \\ 999999999 => 999999998
		1 // -999999999 => -1
		1 \\ -999999999 => -999999998
		999999998 // -999999999 => -1
		999999998 \\ -999999999 => -1
		-999999998 \\ 999999999 => 1`)
}

// checkDivision checks that a quotient and a rest belong together.
func checkDivision(t *testing.T, n, by int) {
	t.Helper()
	quotient := checkReading(t, intValue(n), "//", intValue(by)).Value.Number
	rest := checkReading(t, intValue(n), `\\`, intValue(by)).Value.Number
	if by == 0 {
		return
	}
	inRange := 0 <= rest && rest < by || by < rest && rest <= 0
	if quotient*by+rest != n || !inRange {
		t.Errorf("%d by %d gives %d with the rest %d", n, by, quotient, rest)
	}
}

func TestDivisions(t *testing.T) {
	for n := -30; n <= 30; n++ {
		for by := -30; by <= 30; by++ {
			checkDivision(t, n, by)
			checkDivision(t, 999999999+min(n, 0), by)
			checkDivision(t, -999999999+max(n, 0), by)
			checkDivision(t, n, 999999999+min(by, 0))
			checkDivision(t, n, -999999999+max(by, 0))
		}
	}
	r := rand.New(rand.NewSource(12))
	for range 20000 {
		checkDivision(t, r.Intn(1999999999)-999999999, r.Intn(1999999999)-999999999)
		checkDivision(t, r.Intn(1999999999)-999999999, r.Intn(100000)-50000)
	}
}

func TestIntegersWithEachOther(t *testing.T) {
	list := []int{31622, 31623, -31623, 65536, 333333333, 499999999, 500000000, -500000000, 999999997}
	for n := -12; n <= 12; n++ {
		list = append(list, n, 999999999+min(n, 0), -999999999+max(n, 0))
	}
	counts := map[int]int{}
	for _, n := range list {
		for _, m := range list {
			for _, selector := range numberMessages {
				counts[checkReading(t, intValue(n), selector, intValue(m)).Code]++
			}
		}
		for _, selector := range aloneMessages[2] {
			checkReading(t, intValue(n), selector)
		}
	}
	if counts[0] < 1000 || counts[2] < 1000 || counts[3] < 100 || counts[1] > 0 {
		t.Error(counts)
	}
}

func TestIntegersWithOtherKinds(t *testing.T) {
	for _, n := range []int{-999999999, -5, 0, 1, 5, 999999999} {
		for _, selector := range numberMessages {
			for _, arg := range otherKinds(2) {
				checkBasic(t, intValue(n), selector, values{arg}, says("not a number"))
			}
		}
	}
	checkMessages(t, `
		5 // nil => !not a number
		5 // false => !not a number
		5 \\ false => !not a number
		5 // class0 => !not a number
		5 \\ object0 => !not a number
		5 // block0 => !not a number
		5 // '0' => !not a number
		5 \\ '' => !not a number
		5 // 0 => zero
		0 + '0' => !not a number
		5 < true => !not a number
		5 max: #max: => !not a number`)
}

func TestMessagesToBooleans(t *testing.T) {
	checkMessages(t, `
		true not => false
		false not => true
		true & true => true
		true & false => false
		false & true => false
		false & false => false`)
	for _, arg := range otherKinds(1) {
		checkBasic(t, boolValue(0), "&", values{arg}, says("not a boolean"))
		checkBasic(t, boolValue(1), "&", values{arg}, says("not a boolean"))
	}
}

func TestTextsJoined(t *testing.T) {
	checkMessages(t, `
		'ab' , 'cd' => 'abcd'
		'' , 'cd' => 'cd'
		'ab' , '' => 'ab'
		'' , '' => ''
		'a' , 'a' => 'aa'
		'ab' , #cd => !not a text
		'' , #a => !not a text
		'ab' , nil => !not a text`)
	for n := range 201 {
		one := textValue(bytesOf("one", n))
		for _, m := range []int{0, 1, 199 - n, 200 - n, 201 - n, 202 - n, 200} {
			if m < 0 || m > 200 {
				continue
			}
			want := says("too long")
			if n+m <= 200 {
				want = gives(textValue(bytesOf("one", n) + bytesOf("Other", m)))
			}
			checkBasic(t, one, ",", values{textValue(bytesOf("Other", m))}, want)
		}
	}
	for _, arg := range otherKinds(3) {
		for _, s := range []string{"", "a", "5", bytesOf("a", 200)} {
			checkBasic(t, textValue(s), ",", values{arg}, says("not a text"))
			checkBasic(t, textValue(s), "<", values{arg}, says("not a text"))
		}
	}
}

func TestTextsCompared(t *testing.T) {
	// Each one is less than those behind it.
	sorted := []string{"", " ", " ~", "!", "'", "10", "9", "A", "AB", "Aa", "B", "Z", "Za", "a", "a ", "aB", "aa", "aaa", "ab", "aba", "abb", "b", bytesOf("b", 199), bytesOf("b", 199) + "a", bytesOf("b", 200), bytesOf("b", 199) + "c", "c", "~", "~~"}
	for i, a := range sorted {
		for j, b := range sorted {
			checkBasic(t, textValue(a), "<", values{textValue(strings.Clone(b))}, givesBool(i < j))
		}
	}
	checkMessages(t, `
		'ab' < 'abc' => true
		'abc' < 'ab' => false
		'abc' < 'abc' => false
		'abc' < 'abd' => true
		'abd' < 'abc' => false
		'b' < 'abc' => false
		'a' < #b => !not a text
		'a' < 5 => !not a text`)
}

func TestBytesOfTexts(t *testing.T) {
	for _, s := range []string{"", "a", "ab", "it's", "abc def", " ", bytesOf("abcdefg", 199), bytesOf("tuvwxyz", 200)} {
		v := textValue(s)
		checkBasic(t, v, "size", nil, gives(intValue(len(s))))
		for i := range len(s) {
			checkBasic(t, v, "at:", values{intValue(i + 1)}, gives(textValue(s[i:i+1])))
		}
		for _, n := range []int{0, -1, -2, -len(s) - 1, len(s) + 1, len(s) + 2, 201, 256, 257, 999999999, -999999999} {
			checkBasic(t, v, "at:", values{intValue(n)}, says("out of range"))
		}
		for _, arg := range otherKinds(2) {
			checkBasic(t, v, "at:", values{arg}, says("out of range"))
		}
	}
	checkMessages(t, `
		'abc' at: 1 => 'a'
		'abc' at: 3 => 'c'
		'abc' at: 4 => !out of range
		'abc' at: 0 => !out of range
		'abc' at: -1 => !out of range
		'abc' at: class1 => !out of range
		'abc' at: object1 => !out of range
		'abc' at: true => !out of range
		'abc' at: '1' => !out of range
		'' at: 1 => !out of range
		'' at: 0 => !out of range
		'' size => 0
		'abc' size => 3`)
	for b := 32; b <= 126; b++ {
		checkBasic(t, textValue(string(rune(b))), "at:", values{intValue(1)}, gives(textValue(string(rune(b)))))
	}
	checkBasic(t, textValue(bytesOf("a", 200)), "size", nil, gives(intValue(200)))
}

func TestTextsAsSymbols(t *testing.T) {
	selectors := append([]string{"a", "Z", "x1", "size", "nil", "self", longName, "at:", "at:put:", "a:b:c:", "a:b:c:d:", "class:", "end:main:", longName + ":", strings.Repeat(longName+":", 4)}, operators...)
	for _, s := range selectors {
		checkBasic(t, textValue(s), "asSymbol", nil, gives(symbolValue(s)))
		checkBasic(t, symbolValue(s), "asString", nil, gives(textValue(s)))
	}
	others := append([]string{"", " ", "1", "1a", "a b", " a", "a ", "at:put", "at: put:", ":", "::", "a::", ":a", "a:b:c:d:e:", longName + "a", longName + "a:", "a:" + longName + "a:", "#a", "#at:", "'a'", "^", ":=", ".", "|", "++", "+ ", "===", "~", "a+", "a-b", "(", "1:", "a:1:", bytesOf("a", 200)}, words...)
	for _, s := range others {
		checkBasic(t, textValue(s), "asSymbol", nil, says("not a selector"))
	}
}

func TestTextsAsIntegers(t *testing.T) {
	for _, n := range []int{0, 1, -1, 7, 10, -10, 100, 12345, 99999999, 100000000, 999999998, 999999999, -999999998, -999999999} {
		checkBasic(t, textValue(strconv.Itoa(n)), "asInteger", nil, gives(intValue(n)))
	}
	for _, n := range []int{1000000000, 1000000001, -1000000000, -1000000001, 4294967296, 4294967297, 999999999999, -999999999999, 1000000000000, -1000000000000, math.MaxInt, math.MinInt} {
		checkBasic(t, textValue(strconv.Itoa(n)), "asInteger", nil, givesNil())
	}
	for _, s := range []string{"", " ", "-", "--1", "-0", "00", "01", "-01", "007", "+5", " 5", "5 ", "5a", "a5", "1.5", "1e3", "0x1", "1_0", "1,0", "nil", "'5'", "#5", "five", "-a", "5-", bytesOf("1", 200), bytesOf("0", 200), "-" + bytesOf("9", 199), "18446744073709551617"} {
		checkBasic(t, textValue(s), "asInteger", nil, givesNil())
	}
}

func TestMessagesToOtherKinds(t *testing.T) {
	args := append(otherKinds(-1), noValues()...)
	for _, v := range simpleOnes() {
		for _, selector := range allMessages() {
			if !slices.Contains(aloneMessages[v.Kind], selector) {
				checkMissing(t, v, selector)
			}
			for _, arg := range args {
				if !slices.Contains(argMessages[v.Kind], selector) {
					checkMissing(t, v, selector, arg)
				}
			}
		}
	}
	checkMessages(t, `
		nil not => missing
		nil abs => missing
		nil & true => missing
		nil + 1 => missing
		nil size => missing
		nil asString => missing
		true negated => missing
		true + 1 => missing
		false < true => missing
		5 not => missing
		5 & 3 => missing
		5 size => missing
		5 , 3 => missing
		5 at: 1 => missing
		5 asSymbol => missing
		5 asInteger => missing
		5 asString => missing
		'5' + 3 => missing
		'5' - '3' => missing
		'5' > '3' => missing
		'5' <= '3' => missing
		'5' >= '3' => missing
		'5' max: '3' => missing
		'5' abs => missing
		'a' not => missing
		'a' & true => missing
		'a' asString => missing
		#a size => missing
		#a , #b => missing
		#a , 'b' => missing
		#a < #b => missing
		#a at: 1 => missing
		#a asSymbol => missing
		#a asInteger => missing
		#a + 1 => missing`)
}

func TestMessagesThatAreNowhere(t *testing.T) {
	// Those to every value and those of other kinds are none of this chapter.
	elsewhere := append([]string{"isNil", "notNil", "yourself", "species", "printString", "isKindOf:", "copy", "become:", "new", "new:", "name", "superclass", "show:", "at:put:", "messageText", "messageText:", "perform:", "perform:with:", "error:", "value", "signal", "wait", "fork", "ifTrue:", "and:", "or:", "to:do:"},
		"foo", "foo:", "sizes", "siz", "Size", "SIZE", "size:", "negated:", "abs:", "not:", "max", "min", "max:min:", "at:at:", "asstring", "asText", "asSymbol:", "at", "+:", "plus", "plus:", "a:b:c:d:", "end:")
	none := append([]string{"", " ", "+ ", " +", "++", "+-", "size ", " size", "size\n", "not\x00", "at: ", "at:put", ":", "^", ":=", "/", `\`, "|", "~", "a:b:c:d:e:", longName + "a", "é", "\xff", "<>", "=<", "#size", "'size'", "negated abs", "max:5", bytesOf("a", 300), bytesOf("a:", 1000000)}, words...)
	lists := []values{nil, {}, {intValue(5)}, {textValue("a")}, {boolValue(1)}, {intValue(5), intValue(3)}, {{}, {}, {}}, {{}, {}, {}, {}}, {{}, {}, {}, {}, {}}}
	for _, v := range simpleOnes() {
		for _, selector := range append(append(elsewhere, none...), "=", "==", "~=", "~~") {
			for _, args := range lists {
				checkMissing(t, v, selector, args...)
			}
		}
		for _, selector := range operators {
			if !slices.Contains(argMessages[v.Kind], selector) {
				checkMissing(t, v, selector, v)
			}
		}
	}
}

func TestMessagesWithOtherCounts(t *testing.T) {
	for _, v := range simpleOnes() {
		for _, arg := range otherKinds(-1) {
			for _, selector := range aloneMessages[v.Kind] {
				checkMissing(t, v, selector, arg)
				checkMissing(t, v, selector, arg, arg)
				checkReading(t, v, selector)
			}
			for _, selector := range argMessages[v.Kind] {
				checkMissing(t, v, selector)
				checkMissing(t, v, selector, values{}...)
				checkMissing(t, v, selector, arg, arg)
				checkMissing(t, v, selector, arg, v, arg)
				checkReading(t, v, selector, arg)
			}
		}
	}
	checkMessages(t, `
		5 + => missing
		5 + 3 3 => missing
		5 negated 5 => missing
		5 max: => missing
		5 max: 1 2 => missing
		true not true => missing
		true & => missing
		'a' size 1 => missing
		'a' at: => missing
		'a' at: 1 1 => missing
		#a asString #a => missing`)
}

func TestMessagesWithoutValues(t *testing.T) {
	for _, wrong := range noValues() {
		for _, selector := range allMessages() {
			checkMissing(t, wrong, selector)
			for _, v := range append(simpleOnes(), wrong) {
				checkMissing(t, wrong, selector, v)
				checkMissing(t, v, selector, wrong)
				checkMissing(t, v, selector, wrong, v)
				checkMissing(t, v, selector, v, wrong)
			}
		}
	}
	for _, v := range []impl.Value{classValue(0), classValue(5), classValue(1000000), refValue(0), refValue(799), refValue(math.MaxInt), blockValue(0), blockValue(999), blockValue(1000)} {
		for _, selector := range allMessages() {
			checkMissing(t, v, selector)
			checkMissing(t, v, selector, v)
			checkMissing(t, v, selector, intValue(5))
			checkMissing(t, v, selector, textValue("a"))
		}
	}
}

// messageMaker makes messages that are mostly right.
type messageMaker struct {
	storeMaker
}

func (m messageMaker) simple() impl.Value {
	switch m.Intn(8) {
	case 0:
		return boolValue(m.Intn(2))
	case 1:
		return textValue(strconv.Itoa(m.Intn(4000000000) - 2000000000))
	case 2:
		return textValue(bytesOf(m.pick("a", "ab", "b", "at:", " ~"), m.Intn(201)))
	case 3:
		return textValue(m.pick(allMessages()...))
	case 4:
		return symbolValue(m.pick(allMessages()...))
	case 5:
		return intValue(m.Intn(1999999999) - 999999999)
	case 6:
		return intValue(m.Intn(2001) - 1000)
	}
	return m.value(10)
}

// message makes a message to a value, and its arguments.
func (m messageMaker) message(v impl.Value) (string, values) {
	alone, withOne := aloneMessages[v.Kind], argMessages[v.Kind]
	switch {
	case m.Intn(10) == 0:
		return m.pick(allMessages()...), values{m.simple(), m.simple(), m.simple()}[:m.Intn(4)]
	case len(alone) > 0 && m.Intn(4) == 0:
		return m.pick(alone...), nil
	case len(withOne) > 0:
		arg := m.simple()
		for m.Intn(5) > 0 && arg.Kind != v.Kind {
			arg = m.simple()
		}
		return m.pick(withOne...), values{arg}
	}
	return m.pick(sampleTexts()...), values{m.simple(), m.simple()}[:m.Intn(3)]
}

func TestMadeMessages(t *testing.T) {
	m := messageMaker{newStoreMaker(13)}
	counts := map[string]int{}
	for range 60000 {
		v := m.simple()
		selector, args := m.message(v)
		got := checkReading(t, v, selector, args...)
		counts[strconv.Itoa(got.Code)+got.Text]++
	}
	for _, what := range []string{"0", "1", "2not a number", "2not a boolean", "2not a text", "2out of range", "2not a selector", "2too long", "2overflow"} {
		if counts[what] < 100 {
			t.Error(counts)
		}
	}
}

// TestTotalMessages sends messages to all that a Value can hold.
func TestTotalMessages(t *testing.T) {
	r := rand.New(rand.NewSource(14))
	list, texts := sampleValues(), append(sampleTexts(), allMessages()...)
	for _, v := range list {
		selector := texts[r.Intn(len(texts))]
		checkReading(t, v, selector)
		checkReading(t, v, selector, list[r.Intn(len(list))])
		checkReading(t, intValue(5), allMessages()[r.Intn(21)], v)
		checkReading(t, textValue("a"), allMessages()[r.Intn(21)], v)
	}
}

func TestMessagesAreNotModified(t *testing.T) {
	m := messageMaker{newStoreMaker(15)}
	for range 5000 {
		v := m.simple()
		selector, args := m.message(v)
		args = roomyList(args, intValue(77), textValue("spare"))
		before := slices.Clone(args[:cap(args)])
		want := basicByWords(v, selector, args)
		got := impl.BasicMessage(v, selector, args)
		if again := impl.BasicMessage(v, selector, args); got != again || !slices.Equal(args[:cap(args)], before) {
			t.Errorf("%s %.100q modifies %s", brief(v), selector, brief(before))
		}
		// The arguments are changed, but not what they have given.
		clear(args[:cap(args)])
		impl.BasicMessage(v, selector, args)
		if got != want {
			t.Errorf("%s %.100q %s shares memory with its arguments", brief(v), selector, brief(before))
		}
	}
}
