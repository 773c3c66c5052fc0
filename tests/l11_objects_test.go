package tests

import (
	"math"
	"math/rand"
	"reflect"
	"slices"
	"strconv"
	"strings"
	"testing"

	"loop.example/g03108/impl"
)

// thereIsNoRoom is the result of a message that would need more room.
var thereIsNoRoom = impl.Result{Code: impl.PrimFull}

// The messages of the chapter by the values that have them; those of chapter 10
// are not among them.
var (
	everyMessages     = []string{"=", "==", "~=", "~~", "isNil", "notNil", "yourself", "species", "printString", "isKindOf:", "copy", "become:"}
	classMessages     = []string{"new", "name", "superclass"}
	arrayMessages     = []string{"size", "at:", "at:put:"}
	exceptionMessages = []string{"messageText", "messageText:"}
)

// primitiveMessages has the selectors of this chapter and of chapter 10.
func primitiveMessages() []string {
	list := slices.Concat(allMessages(), everyMessages, classMessages, []string{"new:", "show:"}, arrayMessages, exceptionMessages)
	slices.Sort(list)
	return slices.Compact(list)
}

// madeByWords puts a new object into a store, if there is room.
func madeByWords(s *impl.Store, o impl.Object) impl.Result {
	if s.Made > 799 {
		return thereIsNoRoom
	}
	s.Objects, s.Made = append(s.Objects, o), s.Made+1
	return gives(refValue(len(s.Objects) - 1))
}

// newByWords says what the message new gives for a class.
func newByWords(s *impl.Store, k int) impl.Result {
	switch name := s.Classes[k].Name; {
	case name == "Array":
		return madeByWords(s, arrayOf())
	case name == "Semaphore":
		return madeByWords(s, semaphoreOf(0))
	case slices.Contains(ancestors(*s, k), 1):
		return madeByWords(s, plainOf(k, len(s.Classes[k].Fields), -1, -1, 0))
	case name == "Object" || !slices.Contains(builtinList, name):
		return madeByWords(s, plainOf(k, len(s.Classes[k].Fields)))
	}
	return says("can not be made")
}

// messageToClassByWords says what a message gives that only classes have.
func messageToClassByWords(s *impl.Store, v impl.Value, selector string, args values) impl.Result {
	class := s.Classes[v.Number]
	switch selector {
	case "new":
		return newByWords(s, v.Number)
	case "name":
		return gives(textValue(class.Name))
	case "superclass":
		if class.Name == "Object" {
			return givesNil()
		}
		return gives(classValue(class.Parent))
	}
	switch class.Name + " " + selector {
	case "Array new:":
		for n := range 51 {
			if args[0] == intValue(n) {
				return madeByWords(s, arrayOf(make(values, n)...))
			}
		}
		return says("out of range")
	case "Transcript show:":
		if len(s.Output) >= 60 {
			return thereIsNoRoom
		}
		s.Output = append(s.Output, printByWords(*s, args[0], 0))
		if args[0].Kind == 3 {
			s.Output[len(s.Output)-1] = args[0].Text
		}
		return gives(v)
	}
	return messageIsMissing
}

// messageToObjectByWords says what a message gives that only some objects have.
func messageToObjectByWords(s *impl.Store, v impl.Value, selector string, args values) impl.Result {
	o := &s.Objects[v.Number]
	switch isArray, isException := o.Class == 10, slices.Contains(ancestors(*s, o.Class), 1); {
	case isArray && selector == "size":
		return gives(intValue(len(o.Fields)))
	case isArray && (selector == "at:" || selector == "at:put:"):
		for i := range o.Fields {
			if args[0] != intValue(i+1) {
				continue
			}
			if selector == "at:put:" {
				o.Fields[i] = args[1]
			}
			return gives(o.Fields[i])
		}
		return says("out of range")
	case isException && selector == "messageText":
		return gives(o.Fields[0])
	case isException && selector == "messageText:":
		o.Fields[0] = args[0]
		return gives(v)
	}
	return messageIsMissing
}

// messageToAnyByWords says what a message gives that every value has.
func messageToAnyByWords(s *impl.Store, v impl.Value, selector string, args values) impl.Result {
	class := classByWords(*s, v)
	switch selector {
	case "=", "==", "~=", "~~":
		return givesBool((v == args[0]) == strings.HasPrefix(selector, "="))
	case "isNil", "notNil":
		return givesBool((v == impl.Value{}) == (selector == "isNil"))
	case "yourself":
		return gives(v)
	case "species":
		return gives(classValue(class))
	case "printString":
		return gives(textValue(printByWords(*s, v, 0)))
	case "isKindOf:":
		if args[0].Kind != 5 {
			return says("not a class")
		}
		return givesBool(slices.Contains(ancestors(*s, class), args[0].Number))
	case "become:":
		if v.Kind != 6 || args[0].Kind != 6 {
			return says("can not become")
		}
		was := slices.Clone(s.Objects)
		s.Objects[v.Number], s.Objects[args[0].Number] = was[args[0].Number], was[v.Number]
		return gives(v)
	case "copy":
		return copyByWords(s, v)
	}
	return messageIsMissing
}

// copyByWords says what the message copy gives.
func copyByWords(s *impl.Store, v impl.Value) impl.Result {
	if v.Kind != 6 {
		return gives(v)
	}
	switch o := s.Objects[v.Number]; {
	case o.Class == 12:
		return says("can not be copied")
	case len(o.Numbers) == 3:
		return madeByWords(s, impl.Object{Kind: o.Kind, Class: o.Class, Fields: slices.Clone(o.Fields), Numbers: []int{-1, -1, 0}})
	default:
		return madeByWords(s, impl.Object{Kind: o.Kind, Class: o.Class, Fields: slices.Clone(o.Fields)})
	}
}

// primitiveByWords says by the words of the document what a message gives, and
// the store after it.
func primitiveByWords(s impl.Store, v impl.Value, selector string, args values) (impl.Store, impl.Result) {
	isWrong := func(v impl.Value) bool { return !existsByWords(s, v, 0) }
	if !isStoreByWords(s, 0) || !existsByWords(s, v, 1000) || slices.ContainsFunc(args, isWrong) || impl.CountArgs(selector) != len(args) {
		return impl.Store{}, messageIsMissing
	}
	after := copyOfStore(s)
	r := basicByWords(v, selector, args)
	if r.Code == 1 && v.Kind == 5 {
		r = messageToClassByWords(&after, v, selector, args)
	} else if r.Code == 1 && v.Kind == 6 {
		r = messageToObjectByWords(&after, v, selector, args)
	}
	if r.Code == 1 {
		r = messageToAnyByWords(&after, v, selector, args)
	}
	return after, r
}

// equalStores says whether two stores are equal.
func equalStores(a, b impl.Store) bool {
	return slices.EqualFunc(a.Classes, b.Classes, func(a, b impl.ClassInfo) bool {
		return a.Name == b.Name && a.Parent == b.Parent && slices.Equal(a.Fields, b.Fields)
	}) && slices.EqualFunc(a.Objects, b.Objects, func(a, b impl.Object) bool {
		return a.Kind == b.Kind && a.Class == b.Class && slices.Equal(a.Fields, b.Fields) && slices.Equal(a.Numbers, b.Numbers)
	}) && slices.Equal(a.Output, b.Output) && a.Ticks == b.Ticks && a.Budget == b.Budget && a.Made == b.Made
}

// checkPrimitiveAlone compares what PrimitiveMessage gives with what is wanted.
func checkPrimitiveAlone(t *testing.T, s impl.Store, v impl.Value, selector string, args values, after impl.Store, want impl.Result) {
	t.Helper()
	if got, r := impl.PrimitiveMessage(s, v, selector, args); r != want || !equalStores(got, after) {
		t.Errorf("%s %.100q %s = %s, want %s; the store %s, want %s", brief(v), selector, brief(args), brief(r), brief(want), shownStore(got), shownStore(after))
	}
}

// checkPrimitive compares what PrimitiveMessage and the second reading give for
// a message with what is wanted.
func checkPrimitive(t *testing.T, s impl.Store, v impl.Value, selector string, args values, after impl.Store, want impl.Result) {
	t.Helper()
	checkPrimitiveAlone(t, s, v, selector, args, after, want)
	if got, r := primitiveByWords(s, v, selector, args); r != want || !equalStores(got, after) {
		t.Errorf("by words %s %.100q %s = %s, want %s; the store %s, want %s", brief(v), selector, brief(args), brief(r), brief(want), shownStore(got), shownStore(after))
	}
}

// shownStore shows a store without its classes.
func shownStore(s impl.Store) string {
	return strconv.Itoa(len(s.Classes)) + " classes " + brief(s.Objects) + " " + brief(s.Output) + " " + brief([]int{s.Ticks, s.Budget, s.Made})
}

// checkPrimitiveReading compares PrimitiveMessage with the second reading.
func checkPrimitiveReading(t *testing.T, s impl.Store, v impl.Value, selector string, args ...impl.Value) (impl.Store, impl.Result) {
	t.Helper()
	after, want := primitiveByWords(s, v, selector, args)
	checkPrimitiveAlone(t, s, v, selector, args, after, want)
	return after, want
}

// checkRejected looks for messages that are not valid in a store.
func checkRejected(t *testing.T, s impl.Store, v impl.Value, selector string, args ...impl.Value) {
	t.Helper()
	checkPrimitive(t, s, v, selector, args, impl.Store{}, messageIsMissing)
}

// namedValues has words for the classes and objects of the sample.
func namedValues() map[string]impl.Value {
	named := map[string]impl.Value{}
	for k, class := range sampleStore().Classes {
		named[class.Name] = classValue(k)
	}
	for i, word := range strings.Fields("array nothing object exception error missing zeroDivide point inner failure other zero hollow under semaphore waited") {
		named["the-"+word] = refValue(i)
	}
	return named
}

// readPrimitive reads a value, a selector, arguments and, behind =>, a result.
func readPrimitive(line string) (impl.Value, string, values, impl.Result) {
	named := namedValues()
	message, result, _ := strings.Cut(strings.TrimSpace(line), " => ")
	words := strings.Fields(message)
	var list values
	for i, word := range words {
		if v, found := named[word]; found {
			list = append(list, v)
		} else if i != 1 {
			list = append(list, written(word))
		}
	}
	if v, found := named[result]; found {
		return list[0], words[1], list[1:], gives(v)
	}
	switch result {
	case "":
		return list[0], words[1], list[1:], impl.Result{}
	case "full":
		return list[0], words[1], list[1:], thereIsNoRoom
	}
	return list[0], words[1], list[1:], writtenResult(result)
}

// checkPrimitives reads lines of messages, which leave the store as it is.
func checkPrimitives(t *testing.T, s impl.Store, lines string) {
	t.Helper()
	for line := range strings.Lines(strings.TrimSpace(lines)) {
		v, selector, args, want := readPrimitive(line)
		checkPrimitive(t, s, v, selector, args, s, want)
	}
}

// checkAfter reads a line of a message that changes the store, and returns the
// store after it.
func checkAfter(t *testing.T, s impl.Store, line string, change func(*impl.Store)) impl.Store {
	t.Helper()
	after := copyOfStore(s)
	change(&after)
	v, selector, args, want := readPrimitive(line)
	checkPrimitive(t, s, v, selector, args, after, want)
	return after
}

// checkMade reads a line of a message, without a result, that makes an object.
func checkMade(t *testing.T, s impl.Store, line string, o impl.Object) impl.Store {
	t.Helper()
	return checkAfter(t, s, line+" => object"+strconv.Itoa(len(s.Objects)), func(s *impl.Store) {
		s.Objects, s.Made = append(s.Objects, o), s.Made+1
	})
}

// receivers has values of every kind, and of every kind of object.
func receivers() map[string]values {
	return map[string]values{
		"nil": {{}}, "boolean": {boolValue(0), boolValue(1)}, "integer": {intValue(0), intValue(5), intValue(-999999999)}, "text": {textValue(""), textValue("at:"), textValue("it's")}, "symbol": {symbolValue("a"), symbolValue("at:put:")},
		"class": {classValue(0), classValue(5), classValue(16), classValue(22)}, "Array": {classValue(10)}, "Transcript": {classValue(14)},
		"plain": {refValue(2), refValue(7), refValue(8), refValue(12)}, "exception": {refValue(3), refValue(4), refValue(5), refValue(6), refValue(9), refValue(13)}, "array": {refValue(0), refValue(1)}, "semaphore": {refValue(14), refValue(15)}, "block": {blockValue(0), blockValue(999)},
	}
}

// ownMessages has the messages that values have beside those of every value.
func ownMessages() map[string][]string {
	own := map[string][]string{"class": classMessages, "Array": append(slices.Clone(classMessages), "new:"), "Transcript": append(slices.Clone(classMessages), "show:"), "array": arrayMessages, "exception": exceptionMessages}
	for i, kind := range []string{"nil", "boolean", "integer", "text", "symbol"} {
		own[kind] = slices.Concat(aloneMessages[i], argMessages[i])
	}
	return own
}

// storedValues has values of all kinds but blocks that exist in the sample.
func storedValues() values {
	return values{{}, boolValue(0), boolValue(1), intValue(0), intValue(1), intValue(2), intValue(9), intValue(-1), intValue(50), intValue(51), textValue(""), textValue("a"), textValue("it's"), symbolValue("a"), symbolValue("at:put:"),
		classValue(0), classValue(1), classValue(5), classValue(10), classValue(15), classValue(22), refValue(0), refValue(1), refValue(2), refValue(4), refValue(8), refValue(9), refValue(14), refValue(15)}
}

// argLists has the lists of a number of arguments that a message is tried with.
func argLists(count int) []values {
	switch count {
	case 0:
		return []values{nil, {}}
	case 1:
		var lists []values
		for _, v := range storedValues() {
			lists = append(lists, values{v})
		}
		return lists
	}
	var lists []values
	for _, v := range storedValues() {
		more := slices.Repeat(values{intValue(1)}, count-1)
		lists = append(lists, append(slices.Clone(more), v), append(values{v}, more...))
	}
	return lists
}

// TestPrimitivesOfAllKinds sends all messages of this chapter and of chapter 10
// to values of every kind, and looks for them where they are, and nowhere else.
func TestPrimitivesOfAllKinds(t *testing.T) {
	s, own := sampleStore(), ownMessages()
	others := strings.Fields("foo foo: foo:bar: newSize: new:new: size: at at:ifAbsent: at:put names class superclass: show shows: messageTexts text text: isKindOf isNil: notnil yourself: copy: become isBoolean value value: signal signal: wait fork yield numArgs on:do: ensure: return: resume: retry pass perform: perform:with: error: ifTrue: and: whileTrue: to:do: & | = == -> ? % @")
	for kind, list := range receivers() {
		for _, selector := range append(primitiveMessages(), others...) {
			count := impl.CountArgs(selector)
			if count < 0 {
				continue
			}
			isThere := slices.Contains(own[kind], selector) || slices.Contains(everyMessages, selector)
			for _, v := range list {
				for _, args := range argLists(count) {
					if _, r := checkPrimitiveReading(t, s, v, selector, args...); (r.Code == impl.PrimMissing) == isThere {
						t.Errorf("%s %s %s has the code %d", kind, selector, brief(args), r.Code)
					}
				}
			}
		}
	}
}

func TestMessagesOfOtherKinds(t *testing.T) {
	checkPrimitives(t, sampleStore(), `
		nil new => missing
		nil name => missing
		nil size => missing
		true at: 1 => missing
		5 new: 3 => missing
		5 at: 1 => missing
		5 at:put: 1 2 => missing
		5 superclass => missing
		'a' at:put: 1 'b' => missing
		'a' new => missing
		'a' messageText => missing
		#a name => missing
		#a size => missing
		#a show: 'a' => missing
		Object size => missing
		Object at: 1 => missing
		Array size => missing
		Array at: 1 => missing
		Error messageText => missing
		Error messageText: 'a' => missing
		String asSymbol => missing
		Integer + 1 => missing
		the-array new => missing
		the-array new: 1 => missing
		the-array name => missing
		the-array messageText => missing
		the-array , the-array => missing
		the-array < the-array => missing
		the-array + 1 => missing
		the-point size => missing
		the-point at: 1 => missing
		the-point x => missing
		the-point messageText => missing
		the-point messageText: 'a' => missing
		the-object messageText => missing
		the-object show: 'a' => missing
		the-hollow superclass => missing
		the-error size => missing
		the-error new => missing
		the-error text => missing
		the-semaphore size => missing
		the-semaphore at: 1 => missing
		the-semaphore messageText => missing
		the-semaphore signal => missing
		the-semaphore wait => missing
		block0 size => missing
		block0 new => missing
		block0 value => missing
		block0 numArgs => missing
		block0 messageText => missing`)
}

func TestSimpleMessagesInStores(t *testing.T) {
	s := sampleStore()
	checkPrimitives(t, s, `
		5 + 3 => 8
		5 + true => !not a number
		5 + Integer => !not a number
		5 + the-array => !not a number
		999999999 + 1 => !overflow
		-7 // 2 => -4
		-7 \\ 2 => 1
		7 // 0 => zero
		7 \\ 0 => zero
		7 // nil => !not a number
		5 max: 3 => 5
		5 < 3 => false
		5 < '3' => !not a number
		5 negated => -5
		-5 abs => 5
		5 foo => missing
		5 foo: 3 => missing
		5 not => missing
		true not => false
		true & false => false
		true & 1 => !not a boolean
		true & the-point => !not a boolean
		'abc' size => 3
		'abc' at: 2 => 'b'
		'abc' at: 4 => !out of range
		'abc' at: the-array => !out of range
		'a' , 'b' => 'ab'
		'a' , #b => !not a text
		'a' < 'b' => true
		'at:' asSymbol => #at:
		'1a' asSymbol => !not a selector
		'-12' asInteger => -12
		'x' asInteger => nil
		#at: asString => 'at:'`)
	checkPrimitive(t, s, textValue(bytesOf("a", 200)), ",", values{textValue("b")}, s, says("too long"))
	counts := map[int]int{}
	for _, v := range simpleOnes() {
		for _, selector := range allMessages() {
			for _, args := range argLists(impl.CountArgs(selector)) {
				_, r := checkPrimitiveReading(t, s, v, selector, args...)
				if want := impl.BasicMessage(v, selector, args); r != want {
					t.Errorf("%s %s %s = %s, but alone %s", brief(v), selector, brief(args), brief(r), brief(want))
				}
				counts[r.Code]++
			}
		}
	}
	if counts[0] < 400 || counts[1] < 4000 || counts[2] < 1500 || counts[3] < 5 {
		t.Error(counts)
	}
}

// TestOrderOfMessages looks for messages to the kind of a value before those to
// every value. No selector is among both, so that an error of the first ones is
// what can be seen: the message is not looked for further.
func TestOrderOfMessages(t *testing.T) {
	for kind, own := range ownMessages() {
		for _, selector := range own {
			if slices.Contains(everyMessages, selector) {
				t.Errorf("%s of %s is a message to every value too", selector, kind)
			}
		}
	}
	checkPrimitives(t, sampleStore(), `
		5 + nil => !not a number
		5 = nil => false
		5 isNil => false
		7 // 0 => zero
		true & nil => !not a boolean
		true copy => true
		'a' , nil => !not a text
		'a' = 'a' => true
		'a' size => 1
		#a asString => 'a'
		#a printString => '#a'
		the-array size => 8
		the-array at: 0 => !out of range
		the-array become: nil => !can not become
		Integer new => !can not be made
		Integer name => 'Integer'
		Integer printString => 'Integer'
		the-error messageText => 'division by zero'
		the-error yourself => the-error
		the-point isNil => false`)
	checkPrimitive(t, sampleStore(), textValue("a"), "printString", nil, sampleStore(), gives(textValue("'a'")))
}

func TestNewObjects(t *testing.T) {
	s := sampleStore()
	fields := map[string]int{"Object": 0, "Point": 2, "Inner": 3, "empty": 0}
	for class, n := range fields {
		checkMade(t, s, class+" new", plainOf(namedValues()[class].Number, n))
	}
	exceptions := map[string]int{"Exception": 1, "Error": 1, "MessageNotUnderstood": 1, "ZeroDivide": 1, "Failure": 2, "Other": 2, "Zero": 1, "Under": 5}
	for class, n := range exceptions {
		checkMade(t, s, class+" new", plainOf(namedValues()[class].Number, n, -1, -1, 0))
	}
	checkMade(t, s, "Array new", arrayOf())
	checkMade(t, s, "Semaphore new", semaphoreOf(0))
	closed := strings.Fields("Integer Boolean Nil String Symbol Block Process Transcript Class")
	for _, class := range closed {
		checkPrimitives(t, s, class+" new => !can not be made")
	}
	if len(fields)+len(exceptions)+2+len(closed) != len(s.Classes) {
		t.Error("some class is left out")
	}
	// One behind the other, also in a store without objects.
	for _, s := range []impl.Store{s, storeOf()} {
		for k := range 3 {
			s = checkMade(t, s, "Point new", plainOf(16, 2))
			s = checkMade(t, s, "Array new", arrayOf())
			s = checkMade(t, s, "Under new", plainOf(22, 5, -1, -1, 0))
			s = checkMade(t, s, "Semaphore new", semaphoreOf(0))
			s = checkMade(t, s, "Array new: "+strconv.Itoa(k), arrayOf(make(values, k)...))
		}
	}
	// A class may have no fields of its own, or as many as there can be.
	for _, parent := range []int{0, 1, 2, 3, 4} {
		inherited := len(s.Classes[parent].Fields)
		for own := 0; own+inherited <= 8; own++ {
			s := impl.Store{Classes: systemByWords(impl.Unit{}).Classes}
			all := append(slices.Clone(s.Classes[parent].Fields), strings.Fields("a b c d e f g h")[:own]...)
			s.Classes = append(s.Classes, impl.ClassInfo{Name: "New", Parent: parent, Fields: all})
			numbers := map[bool][]int{true: {-1, -1, 0}}[parent > 0]
			after := copyOfStore(s)
			after.Objects, after.Made = []impl.Object{plainOf(16, inherited+own, numbers...)}, 1
			checkPrimitive(t, s, classValue(16), "new", nil, after, gives(refValue(0)))
		}
	}
}

func TestNewArrays(t *testing.T) {
	s := sampleStore()
	for n := range 51 {
		checkMade(t, s, "Array new: "+strconv.Itoa(n), arrayOf(make(values, n)...))
	}
	for _, n := range append(extremes(), 52, -2, -50) {
		if (n < 0 || n > 50) && n >= -999999999 && n <= 999999999 {
			checkPrimitives(t, s, "Array new: "+strconv.Itoa(n)+" => !out of range")
		}
	}
	for _, word := range strings.Fields("nil false true '' '5' #a #at: Array Integer the-array the-nothing the-point the-error the-semaphore") {
		checkPrimitives(t, s, "Array new: "+word+" => !out of range")
	}
	for _, class := range s.Classes {
		for _, word := range strings.Fields("0 2 50 51 -1 nil 'a' the-array") {
			if class.Name != "Array" {
				checkPrimitives(t, s, class.Name+" new: "+word+" => missing")
			}
		}
	}
}

func TestNamesAndParentsOfClasses(t *testing.T) {
	s := sampleStore()
	parents := strings.Fields("nil Object Exception Error Error Object Object Object Object Object Object Object Object Object Object Object Object Point Error Failure ZeroDivide Object Exception")
	for k, class := range s.Classes {
		checkPrimitives(t, s, class.Name+" name => '"+class.Name+"'")
		checkPrimitives(t, s, class.Name+" superclass => "+parents[k])
	}
	long := storeOf()
	long.Classes[16].Name = longName
	checkPrimitive(t, long, classValue(16), "name", nil, long, gives(textValue(longName)))
	checkPrimitive(t, long, classValue(17), "superclass", nil, long, gives(classValue(16)))
}

// checkShown compares the line that a value gives.
func checkShown(t *testing.T, s impl.Store, v impl.Value, line string) {
	t.Helper()
	after := copyOfStore(s)
	after.Output = append(after.Output, line)
	checkPrimitive(t, s, classValue(14), "show:", values{v}, after, gives(classValue(14)))
}

func TestLinesOfOutput(t *testing.T) {
	s := sampleStore()
	for _, text := range []string{"", "a", "it's", "'a'", " ", "nil", "~", "#a", bytesOf("a", 199), bytesOf("a", 200), bytesOf("'", 200)} {
		checkShown(t, s, textValue(text), text)
	}
	for word, line := range map[string]string{"nil": "nil", "false": "false", "true": "true", "0": "0", "-999999999": "-999999999", "#a": "#a", "#at:put:": "#at:put:", "#+": "#+", "Object": "Object", "empty": "empty", "Transcript": "Transcript",
		"the-array": "(nil false true -999999999 'it''s' #at:put: Under a Semaphore)", "the-nothing": "()", "the-object": "an Object", "the-error": "an Error", "the-point": "a Point", "the-inner": "an Inner", "the-hollow": "a empty", "the-semaphore": "a Semaphore", "the-under": "an Under"} {
		_, _, args, _ := readPrimitive("Transcript show: " + word)
		checkShown(t, s, args[0], line)
	}
	long := storeOf(arrayOf(slices.Repeat(values{textValue("it's")}, 50)...), arrayOf(refValue(1), intValue(1)))
	checkShown(t, long, refValue(0), bytesOf("('it''s'"+strings.Repeat(" 'it''s'", 30), 200))
	checkShown(t, long, refValue(1), "(((... 1) 1) 1)")
	for _, class := range s.Classes {
		for _, word := range strings.Fields("'a' nil 5 the-array") {
			if class.Name != "Transcript" {
				checkPrimitives(t, s, class.Name+" show: "+word+" => missing")
			}
		}
	}
}

func TestOutputThatIsFull(t *testing.T) {
	s := sampleStore()
	s.Output = nil
	for i := range 60 {
		line := "line " + strconv.Itoa(i)
		checkShown(t, s, textValue(line), line)
		s.Output = append(s.Output, line)
	}
	for _, word := range strings.Fields("'a' '' nil true 5 #a Object Transcript the-array the-point the-error the-semaphore") {
		checkPrimitives(t, s, "Transcript show: "+word+" => full")
	}
	// Nothing else needs room for output, and output needs no other room.
	checkMade(t, s, "Point new", plainOf(16, 2))
	checkPrimitives(t, s, `
		Transcript name => 'Transcript'
		Integer show: 'a' => missing
		the-array printString: 1 => missing
		the-nothing printString => '()'`)
	s.Output, s.Made = s.Output[:59], 800
	checkShown(t, s, intValue(5), "5")
}

func TestElementsOfArrays(t *testing.T) {
	s := sampleStore()
	checkPrimitives(t, s, `
		the-array size => 8
		the-nothing size => 0
		the-array at: 1 => nil
		the-array at: 2 => false
		the-array at: 4 => -999999999
		the-array at: 6 => #at:put:
		the-array at: 7 => Under
		the-array at: 8 => the-waited
		the-array at: 0 => !out of range
		the-array at: 9 => !out of range
		the-array at: -1 => !out of range
		the-array at: -8 => !out of range
		the-array at: 999999999 => !out of range
		the-array at: -999999999 => !out of range
		the-nothing at: 0 => !out of range
		the-nothing at: 1 => !out of range`)
	for _, place := range strings.Fields("0 9 10 -1 50 51 999999999 -999999999 nil true false '1' '' #a Object the-array the-nothing the-point the-semaphore") {
		checkPrimitives(t, s, "the-array at: "+place+" => !out of range")
		for _, v := range strings.Fields("1 nil 'a' the-array") {
			checkPrimitives(t, s, "the-array at:put: "+place+" "+v+" => !out of range")
			checkPrimitives(t, s, "the-nothing at:put: "+place+" "+v+" => !out of range")
		}
	}
	for _, word := range strings.Fields("nil false true 0 -999999999 '' 'a' #a Object Under the-array the-nothing the-point the-error the-waited") {
		for _, place := range []int{1, 3, 8} {
			where := strconv.Itoa(place)
			after := checkAfter(t, s, "the-array at:put: "+where+" "+word+" => "+word, func(s *impl.Store) {
				_, _, args, _ := readPrimitive("nil = " + word)
				s.Objects[0].Fields[place-1] = args[0]
			})
			checkPrimitives(t, after, "the-array at: "+where+" => "+word)
			checkPrimitives(t, after, "the-array size => 8")
		}
	}
}

// TestArraysOfAllSizes puts something at each place of arrays, where it is
// found then.
func TestArraysOfAllSizes(t *testing.T) {
	for _, n := range []int{1, 2, 7, 49, 50} {
		s := storeOf(arrayOf(make(values, n)...), arrayOf(intValue(7)))
		for i := range n {
			where := strconv.Itoa(i + 1)
			s = checkAfter(t, s, "object0 at:put: "+where+" 1"+where+" => 1"+where, func(s *impl.Store) { s.Objects[0].Fields[i] = intValue(must("1" + where)) })
		}
		for i := range n {
			where := strconv.Itoa(i + 1)
			checkPrimitives(t, s, "object0 at: "+where+" => 1"+where)
		}
		size, behind := strconv.Itoa(n), strconv.Itoa(n+1)
		checkPrimitives(t, s, "object0 size => "+size)
		checkPrimitives(t, s, "object0 at: "+behind+" => !out of range")
		checkPrimitives(t, s, "object0 at:put: "+behind+" 1 => !out of range")
		checkPrimitives(t, s, "object1 at: 1 => 7")
		s = checkAfter(t, s, "object0 at:put: "+size+" object0 => object0", func(s *impl.Store) { s.Objects[0].Fields[n-1] = refValue(0) })
		checkPrimitives(t, s, "object0 at: "+size+" => object0")
	}
	one := storeOf(arrayOf(impl.Value{}))
	one = checkAfter(t, one, "object0 at:put: 1 object0 => object0", func(s *impl.Store) { s.Objects[0].Fields[0] = refValue(0) })
	checkPrimitives(t, one, "object0 printString => '(((...)))'")
}

// must reads an integer that is written in a test.
func must(s string) int {
	n, err := strconv.Atoi(s)
	if err != nil {
		panic(err)
	}
	return n
}

func TestTextsOfExceptions(t *testing.T) {
	s := sampleStore()
	checkPrimitives(t, s, `
		the-exception messageText => nil
		the-error messageText => 'division by zero'
		the-missing messageText => nil
		the-failure messageText => nil`)
	for word, i := range map[string]int{"exception": 3, "error": 4, "missing": 5, "zeroDivide": 6, "failure": 9, "other": 10, "zero": 11, "under": 13} {
		for _, text := range strings.Fields("'a' '' nil true 5 #a Object the-array the-error the-under") {
			after := checkAfter(t, s, "the-"+word+" messageText: "+text+" => the-"+word, func(s *impl.Store) {
				_, _, args, _ := readPrimitive("nil = " + text)
				s.Objects[i].Fields[0] = args[0]
			})
			checkPrimitives(t, after, "the-"+word+" messageText => "+text)
		}
	}
	for _, word := range strings.Fields("object point inner hollow array nothing semaphore") {
		checkPrimitives(t, s, "the-"+word+" messageText => missing")
		checkPrimitives(t, s, "the-"+word+" messageText: 'a' => missing")
	}
	// The other fields stay as they are.
	s.Objects[13].Fields = values{textValue("a"), intValue(1), intValue(2), intValue(3), intValue(4)}
	checkAfter(t, s, "the-under messageText: 'b' => the-under", func(s *impl.Store) { s.Objects[13].Fields[0] = textValue("b") })
	checkPrimitives(t, s, "the-under messageText => 'a'")
}

func TestComparisonsOfValues(t *testing.T) {
	s := sampleStore()
	s.Objects = append(s.Objects, plainOf(16, 2), arrayOf(), plainOf(2, 1, 4, 2, 1), semaphoreOf(0))
	s.Objects[18].Fields[0] = textValue("division by zero")
	list := slices.Concat(storedValues(), values{boolValue(1), refValue(16), refValue(17), refValue(18), refValue(19), classValue(16), textValue("1"), textValue("nil"), symbolValue("it"), textValue("at:put:")})
	for i, a := range list {
		for j, b := range list {
			same := numberOfBool(i == j || a == boolValue(1) && b == a)
			for _, selector := range []string{"=", "=="} {
				checkPrimitive(t, s, a, selector, values{b}, s, gives(boolValue(same)))
			}
			for _, selector := range []string{"~=", "~~"} {
				checkPrimitive(t, s, a, selector, values{b}, s, gives(boolValue(1-same)))
			}
		}
	}
	checkPrimitives(t, s, `
		1 = true => false
		true == 1 => false
		0 ~= false => true
		0 = nil => false
		nil = nil => true
		nil ~~ false => true
		'a' = #a => false
		'' = nil => false
		'a' == 'a' => true
		0 = Object => false
		0 = the-array => false
		Object = the-array => false
		16 = Point => false
		Point = Point => true
		Point ~= Inner => true
		the-point = the-point => true
		the-point = object16 => false
		the-point ~~ object16 => true
		the-nothing == object17 => false
		the-error = object18 => false
		the-semaphore ~= object19 => true
		block0 = 0 => false
		block0 == Object => false
		block0 ~= the-array => true
		block0 ~~ nil => true`)
}

func TestMessagesThatEveryValueHas(t *testing.T) {
	s := sampleStore()
	s.Objects = append(s.Objects, arrayOf(refValue(0), refValue(16)), arrayOf(refValue(16), textValue("x")))
	texts := map[string]string{"nil": "nil", "false": "false", "true": "true", "0": "0", "-12": "-12", "999999999": "999999999", "''": "''", "'a'": "'a'", "'it's'": "'it''s'", "#a": "#a", "#at:put:": "#at:put:", "#+": "#+",
		"Object": "Object", "Integer": "Integer", "Point": "Point", "empty": "empty", "the-object": "an Object", "the-exception": "an Exception", "the-zeroDivide": "a ZeroDivide", "the-point": "a Point", "the-inner": "an Inner", "the-hollow": "a empty", "the-under": "an Under",
		"the-semaphore": "a Semaphore", "the-waited": "a Semaphore", "the-nothing": "()", "the-array": "(nil false true -999999999 'it''s' #at:put: Under a Semaphore)", "block0": "a Block", "block999": "a Block",
		"object16": "((nil false true -999999999 'it''s' #at:put: Under a Semaphore) ((nil false true -999999999 'it''s' #at:put: Under a Semaphore) (... ...)))"}
	species := map[string]string{"nil": "Nil", "false": "Boolean", "true": "Boolean", "0": "Integer", "-12": "Integer", "999999999": "Integer", "''": "String", "'a'": "String", "'it's'": "String", "#a": "Symbol", "#at:put:": "Symbol", "#+": "Symbol",
		"Object": "Class", "Integer": "Class", "Point": "Class", "empty": "Class", "the-object": "Object", "the-exception": "Exception", "the-zeroDivide": "ZeroDivide", "the-point": "Point", "the-inner": "Inner", "the-hollow": "empty", "the-under": "Under",
		"the-semaphore": "Semaphore", "the-waited": "Semaphore", "the-nothing": "Array", "the-array": "Array", "block0": "Block", "block999": "Block", "object16": "Array"}
	for word, text := range texts {
		v, _, _, _ := readPrimitive(word + " yourself")
		checkPrimitive(t, s, v, "yourself", nil, s, gives(v))
		checkPrimitive(t, s, v, "isNil", nil, s, givesBool(word == "nil"))
		checkPrimitive(t, s, v, "notNil", nil, s, givesBool(word != "nil"))
		checkPrimitive(t, s, v, "printString", nil, s, gives(textValue(text)))
		checkPrimitives(t, s, word+" species => "+species[word])
		for _, class := range s.Classes {
			isAbove := slices.Contains(ancestors(s, namedValues()[species[word]].Number), namedValues()[class.Name].Number)
			checkPrimitives(t, s, word+" isKindOf: "+class.Name+" => "+strconv.FormatBool(isAbove))
		}
	}
	checkPrimitive(t, s, refValue(17), "printString", nil, s, gives(textValue("(((nil false true -999999999 'it''s' #at:put: Under a Semaphore) (... ...)) 'x')")))
	checkPrimitive(t, s, textValue(bytesOf("a", 200)), "printString", nil, s, gives(textValue("'"+bytesOf("a", 199))))
	checkPrimitive(t, s, symbolValue(strings.Repeat(longName+":", 4)), "printString", nil, s, gives(textValue("#"+strings.Repeat(longName+":", 4))))
	checkPrimitive(t, storeOf(arrayOf(slices.Repeat(values{intValue(123)}, 50)...)), refValue(0), "printString", nil, storeOf(arrayOf(slices.Repeat(values{intValue(123)}, 50)...)), gives(textValue(("(" + strings.Repeat("123 ", 50))[:200])))
}

func TestKindsOfValues(t *testing.T) {
	s := sampleStore()
	checkPrimitives(t, s, `
		nil isKindOf: Nil => true
		nil isKindOf: Object => true
		nil isKindOf: Boolean => false
		5 isKindOf: Integer => true
		5 isKindOf: Object => true
		5 isKindOf: String => false
		'a' isKindOf: Symbol => false
		#a isKindOf: String => false
		Point isKindOf: Class => true
		Point isKindOf: Object => true
		Point isKindOf: Point => false
		Inner isKindOf: Point => false
		the-object isKindOf: Object => true
		the-object isKindOf: Point => false
		the-point isKindOf: Point => true
		the-point isKindOf: Object => true
		the-point isKindOf: Inner => false
		the-inner isKindOf: Inner => true
		the-inner isKindOf: Point => true
		the-inner isKindOf: Exception => false
		the-other isKindOf: Failure => true
		the-other isKindOf: Error => true
		the-other isKindOf: Exception => true
		the-other isKindOf: ZeroDivide => false
		the-exception isKindOf: Error => false
		the-zero isKindOf: ZeroDivide => true
		the-array isKindOf: Array => true
		the-semaphore isKindOf: Semaphore => true
		the-semaphore isKindOf: Array => false
		block0 isKindOf: Block => true
		block0 isKindOf: Object => true
		block0 isKindOf: Class => false`)
	for kind, list := range receivers() {
		for _, v := range list {
			for _, word := range strings.Fields("nil true 0 5 16 '' 'Object' #Object #a the-array the-object the-point the-error the-semaphore") {
				_, _, args, _ := readPrimitive("nil = " + word)
				checkPrimitive(t, s, v, "isKindOf:", args, s, says("not a class"))
			}
			if _, r := impl.PrimitiveMessage(s, v, "isKindOf:", values{classValue(0)}); r != givesBool(true) {
				t.Error(kind, r)
			}
		}
	}
}

func TestCopies(t *testing.T) {
	s := sampleStore()
	s.Objects[7].Fields = values{refValue(7), textValue("a")}
	s.Objects[0].Fields[0] = refValue(0)
	checkMade(t, s, "the-point copy", impl.Object{Kind: 1, Class: 16, Fields: values{refValue(7), textValue("a")}})
	checkMade(t, s, "the-inner copy", impl.Object{Kind: 1, Class: 17, Fields: values{refValue(8), classValue(0), intValue(3)}})
	checkMade(t, s, "the-object copy", plainOf(0, 0))
	checkMade(t, s, "the-hollow copy", plainOf(21, 0))
	checkMade(t, s, "the-error copy", impl.Object{Kind: 1, Class: 2, Fields: values{textValue("division by zero")}, Numbers: []int{-1, -1, 0}})
	checkMade(t, s, "the-missing copy", plainOf(3, 1, -1, -1, 0))
	checkMade(t, s, "the-exception copy", plainOf(1, 1, -1, -1, 0))
	checkMade(t, s, "the-other copy", plainOf(19, 2, -1, -1, 0))
	checkMade(t, s, "the-under copy", plainOf(22, 5, -1, -1, 0))
	checkMade(t, s, "the-nothing copy", arrayOf())
	after := checkMade(t, s, "the-array copy", arrayOf(slices.Clone(s.Objects[0].Fields)...))
	// The copy has the array it is one of, not itself, and has its own elements.
	checkPrimitives(t, after, `
		object16 at: 1 => the-array
		object16 = the-array => false
		the-array at: 1 => the-array`)
	after = checkAfter(t, after, "object16 at:put: 2 7 => 7", func(s *impl.Store) { s.Objects[16].Fields[1] = intValue(7) })
	after = checkAfter(t, after, "the-array at:put: 3 8 => 8", func(s *impl.Store) { s.Objects[0].Fields[2] = intValue(8) })
	checkMade(t, after, "object16 copy", arrayOf(slices.Clone(after.Objects[16].Fields)...))
	checkPrimitives(t, s, `
		the-semaphore copy => !can not be copied
		the-waited copy => !can not be copied
		nil copy => nil
		true copy => true
		false copy => false
		-5 copy => -5
		'a' copy => 'a'
		#at: copy => #at:
		Object copy => Object
		Under copy => Under
		Semaphore copy => Semaphore
		block0 copy => block0
		block999 copy => block999`)
	full := storeOf(arrayOf(slices.Repeat(values{refValue(0), textValue("a")}, 25)...))
	checkMade(t, full, "object0 copy", arrayOf(slices.Repeat(values{refValue(0), textValue("a")}, 25)...))
}

func TestExchangesOfObjects(t *testing.T) {
	s := sampleStore()
	for i := range s.Objects {
		for j := range s.Objects {
			line := "object" + strconv.Itoa(i) + " become: object" + strconv.Itoa(j) + " => object" + strconv.Itoa(i)
			after := checkAfter(t, s, line, func(s *impl.Store) {
				one, other := s.Objects[i], s.Objects[j]
				s.Objects[i], s.Objects[j] = other, one
			})
			if i == j && !equalStores(after, s) {
				t.Errorf("%s changes the store", line)
			}
			if twice := checkAfter(t, after, line, func(after *impl.Store) { *after = s }); !equalStores(twice, s) {
				t.Errorf("%s twice changes the store", line)
			}
		}
		for _, word := range strings.Fields("nil true false 0 5 '' 'a' #a Object Array Point") {
			checkPrimitives(t, s, "object"+strconv.Itoa(i)+" become: "+word+" => !can not become")
			checkPrimitives(t, s, word+" become: object"+strconv.Itoa(i)+" => !can not become")
			checkPrimitives(t, s, word+" become: "+word+" => !can not become")
		}
		checkPrimitives(t, s, "block0 become: object"+strconv.Itoa(i)+" => !can not become")
	}
	checkPrimitives(t, s, `
		block0 become: nil => !can not become
		0 become: the-array => !can not become
		Object become: the-array => !can not become
		Object become: Point => !can not become`)
}

// TestWhatBecomesOfObjects sends messages to objects that have been exchanged.
func TestWhatBecomesOfObjects(t *testing.T) {
	s := storeOf(arrayOf(intValue(1), refValue(0), refValue(1)), plainOf(16, 2), plainOf(2, 1, 3, 4, 5), semaphoreOf(2, 1))
	s.Objects[1].Fields, s.Objects[2].Fields = values{refValue(1), refValue(0)}, values{textValue("a")}
	one, _ := impl.PrimitiveMessage(s, refValue(0), "become:", values{refValue(1)})
	checkPrimitives(t, one, `
		object0 species => Point
		object1 species => Array
		object0 size => missing
		object1 size => 3
		object1 at: 2 => object0
		object1 at: 3 => object1
		object0 = object0 => true
		object0 = object1 => false
		object0 isKindOf: Array => false`)
	checkPrimitive(t, one, refValue(1), "printString", nil, one, gives(textValue("(1 a Point (1 a Point (1 a Point ...)))")))
	checkMade(t, one, "object0 copy", impl.Object{Kind: 1, Class: 16, Fields: values{refValue(1), refValue(0)}})
	two, _ := impl.PrimitiveMessage(one, refValue(3), "become:", values{refValue(2)})
	checkPrimitives(t, two, `
		object3 messageText => 'a'
		object2 messageText => missing
		object2 copy => !can not be copied
		object3 isKindOf: Exception => true
		object2 species => Semaphore`)
	checkMade(t, two, "object3 copy", impl.Object{Kind: 1, Class: 2, Fields: values{textValue("a")}, Numbers: []int{-1, -1, 0}})
	three, _ := impl.PrimitiveMessage(two, refValue(1), "become:", values{refValue(3)})
	checkPrimitives(t, three, `
		object1 messageText => 'a'
		object3 at: 2 => object0
		object3 at: 1 => 1`)
}

// makings has messages that make an object, and the objects.
func makings() map[string]impl.Object {
	return map[string]impl.Object{"Array new": arrayOf(), "Array new: 0": arrayOf(), "Array new: 50": arrayOf(make(values, 50)...), "Semaphore new": semaphoreOf(0), "Object new": plainOf(0, 0), "Exception new": plainOf(1, 1, -1, -1, 0), "Zero new": plainOf(20, 1, -1, -1, 0), "Point new": plainOf(16, 2), "empty new": plainOf(21, 0),
		"the-nothing copy": arrayOf(), "the-point copy": plainOf(16, 2), "the-object copy": plainOf(0, 0), "the-missing copy": plainOf(3, 1, -1, -1, 0)}
}

func TestStoresThatAreFull(t *testing.T) {
	for line, o := range makings() {
		for _, made := range []int{16, 17, 500, 798, 799} {
			s := sampleStore()
			s.Made = made
			checkMade(t, s, line, o)
		}
		s := sampleStore()
		s.Made = 800
		checkPrimitives(t, s, line+" => full")
		s.Made = 799
		after := checkMade(t, s, line, o)
		checkPrimitives(t, after, line+" => full")
		// The objects themselves may be as many.
		s.Objects = append(s.Objects, slices.Repeat([]impl.Object{plainOf(0, 0)}, 783)...)
		after = checkMade(t, s, line, o)
		if len(after.Objects) != 800 || !impl.IsStore(after) {
			t.Error(line)
		}
		checkPrimitives(t, after, line+" => full")
	}
}

func TestMessagesThatNeedNoRoom(t *testing.T) {
	for _, made := range []int{799, 800} {
		s := sampleStore()
		s.Made = made
		checkPrimitives(t, s, `
			Integer new => !can not be made
			Transcript new => !can not be made
			Class new => !can not be made
			Array new: 51 => !out of range
			Array new: -1 => !out of range
			Array new: nil => !out of range
			Integer new: 3 => missing
			Array name => 'Array'
			Array superclass => Object
			the-semaphore copy => !can not be copied
			nil copy => nil
			5 copy => 5
			'a' copy => 'a'
			#a copy => #a
			Point copy => Point
			block5 copy => block5
			5 + 3 => 8
			'a' , 'b' => 'ab'
			the-array size => 8
			the-array at: 4 => -999999999
			the-array at: 9 => !out of range
			the-error messageText => 'division by zero'
			the-array = the-array => true
			the-array ~~ nil => true
			the-point isNil => false
			the-point notNil => true
			the-point yourself => the-point
			the-point species => Point
			the-nothing printString => '()'
			the-point isKindOf: Point => true
			the-point become: the-point => the-point
			the-point foo => missing`)
		checkAfter(t, s, "the-array at:put: 8 5 => 5", func(s *impl.Store) { s.Objects[0].Fields[7] = intValue(5) })
		checkAfter(t, s, "the-error messageText: nil => the-error", func(s *impl.Store) { s.Objects[4].Fields[0] = impl.Value{} })
		checkAfter(t, s, "the-array become: the-nothing => the-array", func(s *impl.Store) {
			s.Objects[0], s.Objects[1] = s.Objects[1], s.Objects[0]
		})
		checkShown(t, s, impl.Value{}, "nil")
		for _, selector := range primitiveMessages() {
			for _, list := range receivers() {
				for _, args := range argLists(impl.CountArgs(selector))[:2] {
					checkPrimitiveReading(t, s, list[0], selector, args...)
				}
			}
		}
	}
}

// wrongMessages has messages that would give something in the sample.
func wrongMessages() []string {
	return strings.Split("nil isNil|5 + 3|true not|'a' size|#a asString|Point new|Array new: 2|Point name|Transcript show: 'a'|the-array size|the-array at: 1|the-array at:put: 1 2|the-error messageText|the-error messageText: 'a'|the-point copy|the-semaphore species|the-point become: the-array|block3 isNil|the-point foo", "|")
}

func TestMessagesInWhatIsNoStore(t *testing.T) {
	spoilers := []func(*impl.Store){
		func(s *impl.Store) { *s = impl.Store{} }, func(s *impl.Store) { s.Made = 15 }, func(s *impl.Store) { s.Made = 801 }, func(s *impl.Store) { s.Made = -1 }, func(s *impl.Store) { s.Ticks = 11 }, func(s *impl.Store) { s.Ticks = -1 }, func(s *impl.Store) { s.Budget = 3001 },
		func(s *impl.Store) { s.Output[0] = "\n" }, func(s *impl.Store) { s.Output = make([]string, 61) }, func(s *impl.Store) { s.Classes[3].Name = "Q" }, func(s *impl.Store) { s.Classes = nil }, func(s *impl.Store) { s.Classes[22].Parent = 22 },
		func(s *impl.Store) { s.Objects[5].Numbers = nil }, func(s *impl.Store) { s.Objects[2].Kind = 0 }, func(s *impl.Store) { s.Objects[0].Fields[0] = refValue(16) }, func(s *impl.Store) { s.Objects[7].Fields[0] = intValue(1000000000) },
		func(s *impl.Store) { s.Objects[0].Fields[0] = blockValue(0) }, func(s *impl.Store) { s.Objects[13].Fields[4] = blockValue(999) }, func(s *impl.Store) { s.Objects[0].Fields = make(values, 51) }, func(s *impl.Store) { s.Objects[15].Numbers[0] = -1 },
	}
	for _, line := range wrongMessages() {
		v, selector, args, _ := readPrimitive(line)
		if after, _ := checkPrimitiveReading(t, sampleStore(), v, selector, args...); len(after.Classes) != 23 {
			t.Error(line)
		}
		for _, spoil := range spoilers {
			s := sampleStore()
			spoil(&s)
			checkRejected(t, s, v, selector, args...)
		}
	}
}

func TestMessagesWithWhatIsNoValue(t *testing.T) {
	s := sampleStore()
	absent := values{classValue(23), classValue(24), classValue(999), refValue(16), refValue(17), refValue(20), refValue(800), refValue(math.MaxInt), blockValue(1000), blockValue(1001), blockValue(math.MaxInt)}
	for _, wrong := range append(noValues(), absent...) {
		for _, selector := range primitiveMessages() {
			switch impl.CountArgs(selector) {
			case 0:
				checkRejected(t, s, wrong, selector)
			case 1:
				checkRejected(t, s, wrong, selector, intValue(1))
				for _, list := range receivers() {
					checkRejected(t, s, list[0], selector, wrong)
				}
			case 2:
				checkRejected(t, s, wrong, selector, intValue(1), intValue(1))
				checkRejected(t, s, refValue(0), selector, wrong, intValue(1))
				checkRejected(t, s, refValue(0), selector, intValue(1), wrong)
			}
		}
		checkRejected(t, s, wrong, "foo")
		checkRejected(t, s, refValue(0), "foo:", wrong)
	}
	// A block may be the receiver, up to the index 999, but no argument.
	for _, n := range []int{0, 1, 500, 998, 999} {
		checkPrimitive(t, s, blockValue(n), "yourself", nil, s, gives(blockValue(n)))
		checkPrimitive(t, s, blockValue(n), "foo", nil, s, messageIsMissing)
		for _, list := range receivers() {
			for _, selector := range primitiveMessages() {
				if impl.CountArgs(selector) == 1 {
					checkRejected(t, s, list[0], selector, blockValue(n))
				}
			}
		}
		checkRejected(t, s, blockValue(n), "=", blockValue(n))
		checkRejected(t, s, refValue(0), "at:put:", intValue(1), blockValue(n))
		checkRejected(t, s, refValue(0), "at:put:", blockValue(n), intValue(1))
		checkRejected(t, s, refValue(0), "foo:bar:", intValue(1), blockValue(n))
	}
}

func TestMessagesWithWhatIsNoSelector(t *testing.T) {
	s := sampleStore()
	none := append([]string{"", " ", "++", "new ", " new", "at: ", "at:put", ":", "^", ":=", "|", "a:b:c:d:e:", longName + "a", "é", "\xff", "#size", "'size'", "new:5", "isNil\x00", bytesOf("a", 300), bytesOf("a:", 1000000)}, words...)
	for _, list := range receivers() {
		v := list[0]
		for _, selector := range none {
			for n := range 6 {
				checkRejected(t, s, v, selector, make(values, n)...)
			}
		}
		for _, selector := range append(primitiveMessages(), "foo", "foo:", "foo:bar:", "a:b:c:d:") {
			for n := range 6 {
				if n != impl.CountArgs(selector) {
					checkRejected(t, s, v, selector, make(values, n)...)
					checkRejected(t, s, v, selector, slices.Repeat(values{intValue(1)}, n)...)
				}
			}
		}
		for selector, n := range map[string]int{"foo": 0, longName: 0, "nil": 0, "foo:": 1, "!": 1, "foo:bar:": 2, "a:b:c:": 3, "a:b:c:d:": 4} {
			if impl.CountArgs(selector) == n {
				checkPrimitive(t, s, v, selector, make(values, n), s, messageIsMissing)
			}
		}
	}
}

// TestFieldsOfResults looks for values and texts where they have no meaning.
func TestFieldsOfResults(t *testing.T) {
	s := sampleStore()
	full := copyOfStore(s)
	full.Made, full.Output = 800, make([]string, 60)
	counts := map[int]int{}
	for _, s := range []impl.Store{s, full, {}} {
		for _, selector := range append(primitiveMessages(), "foo", "foo:") {
			for _, list := range receivers() {
				for _, args := range argLists(impl.CountArgs(selector)) {
					after, r := impl.PrimitiveMessage(s, list[0], selector, args)
					counts[r.Code]++
					hasValue, hasText := r.Value != impl.Value{}, r.Text != ""
					if r.Code != impl.PrimDone && (hasValue || !equalStores(after, s)) || hasText != (r.Code == impl.PrimError || r.Code == impl.PrimZero) {
						t.Errorf("%s %s %s = %s", brief(list[0]), selector, brief(args), brief(r))
					}
					if r.Code == impl.PrimDone && (!impl.IsStore(after) || !existsByWords(after, r.Value, 1000)) {
						t.Errorf("%s %s %s = %s, in %s", brief(list[0]), selector, brief(args), brief(r), shownStore(after))
					}
				}
			}
		}
	}
	for code := range 5 {
		if counts[code] < 2 {
			t.Error(counts)
		}
	}
}

// primitiveMaker makes messages that are mostly right.
type primitiveMaker struct {
	messageMaker
}

// valueFor makes a value that mostly exists in a store.
func (m primitiveMaker) valueFor(s impl.Store) impl.Value {
	if m.Intn(4) == 0 {
		return m.simple()
	}
	return m.value(max(1, len(s.Objects)))
}

// messageFor makes a receiver in a store, and the selector of a message to it.
func (m primitiveMaker) messageFor(s impl.Store) (impl.Value, string) {
	v := m.valueFor(s)
	switch m.Intn(8) {
	case 0:
		return classValue(m.Intn(23)), m.pick(classMessages...)
	case 1:
		return classValue(10), "new:"
	case 2:
		return classValue(14), "show:"
	case 3:
		return refValue(m.Intn(max(1, len(s.Objects)))), "copy"
	case 4:
		return v, m.pick(primitiveMessages()...)
	}
	own := everyMessages
	switch isObject := v.Kind == 6 && existsByWords(s, v, 0); {
	case isObject && s.Objects[v.Number].Kind == 2:
		own = arrayMessages
	case isObject && len(s.Objects[v.Number].Numbers) == 3:
		own = exceptionMessages
	}
	return v, m.pick(m.pick(own...), m.pick(own...), m.pick(everyMessages...))
}

// sent makes a message to a value of a store, and its arguments.
func (m primitiveMaker) sent(s impl.Store) (impl.Value, string, values) {
	v, selector := m.messageFor(s)
	if v.Kind < 5 && m.Intn(2) == 0 {
		selector, args := m.message(v)
		return v, selector, args
	}
	var args values
	for range max(0, impl.CountArgs(selector)) {
		args = append(args, m.valueFor(s))
	}
	likely := map[string]impl.Value{"at:": intValue(m.Intn(10)), "at:put:": intValue(m.Intn(10)), "new:": intValue(m.Intn(60) - 3), "isKindOf:": classValue(m.Intn(23)), "become:": refValue(m.Intn(len(s.Objects) + 1))}
	if v, found := likely[selector]; found && m.Intn(4) > 0 {
		args[0] = v
	}
	return v, selector, args
}

func TestMadeMessagesInStores(t *testing.T) {
	m := primitiveMaker{messageMaker{newStoreMaker(16)}}
	counts := map[string]int{}
	for range 15000 {
		s := m.store()
		for m.Intn(4) > 0 && !isStoreByWords(s, 0) {
			s = m.store()
		}
		if m.Intn(20) == 0 {
			s.Made = 800
		}
		v, selector, args := m.sent(s)
		after, r := checkPrimitiveReading(t, s, v, selector, args...)
		counts[strconv.Itoa(r.Code)+r.Text]++
		if r.Code == 0 && !equalStores(after, s) {
			counts[selector]++
		}
		if len(after.Classes) == 0 {
			counts["zero"]++
		}
	}
	for _, what := range []string{"0", "1", "4", "zero", "2not a number", "2out of range", "2not a class", "2can not be made", "2can not be copied", "2can not become", "new", "new:", "copy", "become:", "show:", "at:put:", "messageText:"} {
		if counts[what] < 30 {
			t.Error(what, counts)
		}
	}
}

// TestRowsOfMessages sends messages one after the other, each in the store that
// the one before it has left, until nothing more fits in.
func TestRowsOfMessages(t *testing.T) {
	m := primitiveMaker{messageMaker{newStoreMaker(17)}}
	full := 0
	for range 40 {
		s := sampleStore()
		s.Made = 700 + m.Intn(100)
		want := copyOfStore(s)
		for range 300 {
			v, selector, args := m.sent(s)
			after, r := impl.PrimitiveMessage(s, v, selector, args)
			said, result := primitiveByWords(want, v, selector, args)
			if r != result || !equalStores(after, said) {
				t.Fatalf("%s %s %s = %s, want %s", brief(v), selector, brief(args), brief(r), brief(result))
			}
			if len(after.Classes) > 0 {
				s, want = after, said
			}
			full += numberOfBool(r.Code == impl.PrimFull)
		}
		if !impl.IsStore(s) {
			t.Error(shownStore(s))
		}
	}
	if full < 100 {
		t.Error(full)
	}
}

// TestTotalPrimitives sends messages to all that a Value can hold, in stores
// that may be anything.
func TestTotalPrimitives(t *testing.T) {
	r := rand.New(rand.NewSource(18))
	m := newStoreMaker(19)
	list, texts := sampleValues(), append(sampleTexts(), primitiveMessages()...)
	stores := []impl.Store{{}, sampleStore(), storeOf(), m.store(), m.store()}
	for _, v := range list {
		if r.Intn(3) > 0 && !isValueByWords(v) {
			continue
		}
		s, selector := stores[r.Intn(len(stores))], texts[r.Intn(len(texts))]
		args := values{list[r.Intn(len(list))], v, list[r.Intn(len(list))]}[:r.Intn(4)]
		checkPrimitiveReading(t, s, v, selector, args...)
		checkPrimitiveReading(t, s, v, texts[len(texts)-1-r.Intn(40)])
		checkPrimitiveReading(t, s, refValue(0), everyMessages[r.Intn(len(everyMessages))], v)
	}
}

// placesOfStore returns the places in memory of all elements that the lists of
// a store have room for.
func placesOfStore(s *impl.Store) []any {
	places := slices.Concat(placesOf(s.Classes), placesOf(s.Objects), placesOf(s.Output))
	for i := range s.Classes {
		places = append(places, placesOf(s.Classes[i].Fields)...)
	}
	for i := range s.Objects {
		places = slices.Concat(places, placesOf(s.Objects[i].Fields), placesOf(s.Objects[i].Numbers))
	}
	return places
}

// checkApart looks for memory that lists share.
func checkApart(t *testing.T, what string, lists ...[]any) {
	t.Helper()
	met := map[any]bool{}
	for _, place := range slices.Concat(lists...) {
		if met[place] {
			t.Fatalf("%s: memory is shared", what)
		}
		met[place] = true
	}
}

func TestStoresOfMessagesAreNew(t *testing.T) {
	m := primitiveMaker{messageMaker{newStoreMaker(20)}}
	for i := range 1500 {
		s := roomyStore(m.store())
		v, selector, args := m.sent(s)
		if lines := wrongMessages(); i < len(lines) {
			s = roomyStore(sampleStore())
			v, selector, args, _ = readPrimitive(lines[i])
		}
		args = roomyList(args, intValue(77), refValue(0))
		store, given := wholeOfStore(s), slices.Clone(args[:cap(args)])
		after, r := impl.PrimitiveMessage(s, v, selector, args)
		what := brief(v) + " " + selector + " " + brief(args)
		if !reflect.DeepEqual(wholeOfStore(s), store) || !slices.Equal(args[:cap(args)], given) {
			t.Errorf("%s modifies what it is given", what)
		}
		checkApart(t, what, placesOfStore(&s), placesOf(args), placesOfStore(&after))
		if again, same := impl.PrimitiveMessage(s, v, selector, args); r != same || !equalStores(after, again) {
			t.Errorf("%s gives something else again", what)
		}
	}
}
