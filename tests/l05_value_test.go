package tests

import (
	"fmt"
	"math"
	"reflect"
	"runtime/debug"
	"slices"
	"strconv"
	"strings"
	"testing"
	"unsafe"

	"loop.example/g03011/impl"
)

// Promise 5: valid values are small.

func intKey(n int) impl.Key {
	return impl.Key{Num: n}
}

func strKey(s string) impl.Key {
	return impl.Key{Text: true, Str: s}
}

func array(next int, items ...impl.Entry) impl.Value {
	return impl.Value{Kind: impl.KindArray, Next: next, Items: items}
}

// list is an array with the keys 0, 1, 2 and so on.
func list(values ...impl.Value) impl.Value {
	v := array(len(values))
	for i, x := range values {
		v.Items = append(v.Items, impl.Entry{Key: intKey(i), Val: x})
	}
	return v
}

func nulls(n int) []impl.Value {
	return make([]impl.Value, n)
}

// nested puts v into as many arrays.
func nested(depth int, v impl.Value) impl.Value {
	for range depth {
		v = list(v)
	}
	return v
}

// doubled puts v, twice at each level, into arrays that share their items.
func doubled(depth int, v impl.Value) impl.Value {
	for range depth {
		v = list(v, v)
	}
	return v
}

// endlessValues has values that hold themselves.
func endlessValues() []impl.Value {
	one := list(impl.NullValue())
	one.Items[0].Val = one
	two := list(impl.IntValue(1), list(impl.IntValue(2)))
	two.Items[1].Val.Items[0].Val = two
	// The inner array has the same memory as the outer one, but not all of its items.
	part := list(impl.NullValue(), impl.IntValue(3))
	part.Items[0].Val = array(1, part.Items[:1]...)
	return []impl.Value{one, two, part, nested(3, one), list(impl.IntValue(4), doubled(80, two))}
}

// number is a Value with nothing but a Kind and a Num.
func number(kind, n int) impl.Value {
	return impl.Value{Kind: kind, Num: n}
}

func modelIsKey(k impl.Key) bool {
	if k.Text {
		n, err := strconv.Atoi(k.Str)
		isDecimal := err == nil && strconv.Itoa(n) == k.Str && -1000000000 <= n && n <= 1000000000
		return k.Num == 0 && len(k.Str) <= 400 && !isDecimal
	}
	return k.Str == "" && -1000000000 <= k.Num && k.Num <= 1000000000
}

func modelWeight(v impl.Value) int {
	weight := 1
	if v.Kind == 4 {
		for _, e := range v.Items {
			weight += modelWeight(e.Val)
		}
	}
	return weight
}

func modelNest(v impl.Value) int {
	if v.Kind != 4 {
		return 0
	}
	deepest := 0
	for _, e := range v.Items {
		deepest = max(deepest, modelNest(e.Val))
	}
	return 1 + deepest
}

func modelIsValue(v impl.Value) bool {
	if modelWeight(v) > 200 || v.Kind < 0 || v.Kind == 5 || v.Kind > 8 {
		return false
	}
	if v.Kind != 3 && v.Str != "" || v.Kind != 4 && (v.Next != 0 || len(v.Items) > 0) {
		return false
	}
	least := []int{0, 0, -1000000000, 0, 0, 0, 0, 0, 0}
	most := []int{0, 1, 1000000000, 0, 0, 0, 255, 255, 255}
	if v.Num < least[v.Kind] || v.Num > most[v.Kind] || len(v.Str) > 400 || v.Next < 0 || v.Next > 1000000001 {
		return false
	}
	for i, e := range v.Items {
		for _, before := range v.Items[:i] {
			if before.Key == e.Key {
				return false
			}
		}
		if !modelIsKey(e.Key) || !e.Key.Text && e.Key.Num >= v.Next || !modelIsValue(e.Val) {
			return false
		}
	}
	return true
}

func modelIsPlain(v impl.Value) bool {
	if v.Kind == 4 {
		for _, e := range v.Items {
			if !modelIsPlain(e.Val) {
				return false
			}
		}
	}
	return 0 <= v.Kind && v.Kind <= 4
}

func modelIdentical(a, b impl.Value) bool {
	if a.Kind != b.Kind || a.Num != b.Num || a.Str != b.Str || len(a.Items) != len(b.Items) {
		return false
	}
	for i := range a.Items {
		if a.Items[i].Key != b.Items[i].Key || !modelIdentical(a.Items[i].Val, b.Items[i].Val) {
			return false
		}
	}
	return true
}

// brief shows a value, but not all of a large or a deep one.
func brief(v impl.Value) string {
	if len(v.Items) > 5 {
		return fmt.Sprintf("a value of the Kind %d with %d items and the Next %d", v.Kind, len(v.Items), v.Next)
	}
	return fmt.Sprintf("%.300s", fmt.Sprintf("%+v", shallow(v, 5)))
}

// shallow leaves out what lies deeper, and marks where: some values have no end.
func shallow(v impl.Value, depth int) impl.Value {
	if len(v.Items) > 5 || depth == 0 && len(v.Items) > 0 {
		return impl.Value{Kind: v.Kind, Num: v.Num, Str: fmt.Sprintf("%s and %d items", v.Str, len(v.Items)), Next: v.Next}
	}
	v.Items = slices.Clone(v.Items)
	for i := range v.Items {
		v.Items[i].Val = shallow(v.Items[i].Val, depth-1)
	}
	return v
}

func checkKey(t *testing.T, k impl.Key, want bool) {
	t.Helper()
	if got := impl.IsKey(k); got != want {
		t.Errorf("IsKey(%.80s) = %v; want %v", fmt.Sprintf("%+v", k), got, want)
	}
}

func checkSizes(t *testing.T, v impl.Value, weight, nest int) {
	t.Helper()
	if got := impl.Weight(v); got != weight {
		t.Errorf("Weight(%s) = %d; want %d", brief(v), got, weight)
	}
	if got := impl.Nest(v); got != nest {
		t.Errorf("Nest(%s) = %d; want %d", brief(v), got, nest)
	}
}

func checkValid(t *testing.T, v impl.Value, want bool) {
	t.Helper()
	if got := impl.IsValue(v); got != want {
		t.Errorf("IsValue(%s) = %v; want %v", brief(v), got, want)
	}
}

func checkPlain(t *testing.T, v impl.Value, want bool) {
	t.Helper()
	if got := impl.IsPlain(v); got != want {
		t.Errorf("IsPlain(%s) = %v; want %v", brief(v), got, want)
	}
}

func checkIdentical(t *testing.T, a, b impl.Value, want bool) {
	t.Helper()
	if got := impl.Identical(a, b); got != want {
		t.Errorf("Identical(%s, %s) = %v; want %v", brief(a), brief(b), got, want)
	}
	if got := impl.Identical(b, a); got != want {
		t.Errorf("Identical(%s, %s) = %v; want %v", brief(b), brief(a), got, want)
	}
}

// checkAsModel checks all that this chapter says of a value on its own.
func checkAsModel(t *testing.T, v impl.Value) {
	t.Helper()
	checkSizes(t, v, modelWeight(v), modelNest(v))
	checkValid(t, v, modelIsValue(v))
	checkPlain(t, v, modelIsPlain(v))
	checkIdentical(t, v, v, true)
}

// checkBuilt compares all fields of a value that a function has made.
func checkBuilt(t *testing.T, what string, got impl.Value, kind, num int, str string) {
	t.Helper()
	if got.Kind != kind || got.Num != num || got.Str != str || got.Next != 0 || len(got.Items) != 0 {
		t.Errorf("%s = %+v; want the Kind %d, the Num %d and the Str %q", what, got, kind, num, str)
	}
}

func TestValueConstants(t *testing.T) {
	kinds := []int{impl.KindNull, impl.KindBool, impl.KindInt, impl.KindText, impl.KindArray, impl.KindHandle, impl.KindObject, impl.KindClosure, impl.KindGen}
	if !slices.Equal(kinds, []int{0, 1, 2, 3, 4, 5, 6, 7, 8}) {
		t.Error(kinds)
	}
	if impl.MaxText != 400 || impl.MaxWeight != 200 || impl.MaxHandle != 255 {
		t.Error(impl.MaxText, impl.MaxWeight, impl.MaxHandle)
	}
}

func TestNullValueAndArrayValue(t *testing.T) {
	checkBuilt(t, "NullValue()", impl.NullValue(), 0, 0, "")
	checkBuilt(t, "ArrayValue()", impl.ArrayValue(), 4, 0, "")
	checkIdentical(t, impl.NullValue(), impl.Value{}, true)
	checkSizes(t, impl.ArrayValue(), 1, 1)
	for _, v := range []impl.Value{impl.NullValue(), impl.ArrayValue()} {
		checkValid(t, v, true)
		checkPlain(t, v, true)
	}
}

func TestBoolValue(t *testing.T) {
	checkBuilt(t, "BoolValue(false)", impl.BoolValue(false), 1, 0, "")
	checkBuilt(t, "BoolValue(true)", impl.BoolValue(true), 1, 1, "")
	checkValid(t, impl.BoolValue(false), true)
	checkValid(t, impl.BoolValue(true), true)
}

func TestIntValue(t *testing.T) {
	for _, n := range []int{0, 1, -1, 42, impl.MaxInt, -impl.MaxInt} {
		checkBuilt(t, "IntValue", impl.IntValue(n), 2, n, "")
		checkValid(t, impl.IntValue(n), true)
	}
	for _, n := range []int{impl.MaxInt + 1, -impl.MaxInt - 1, impl.MaxValue, math.MaxInt, math.MinInt, 1 << 32, 1 << 40} {
		checkBuilt(t, "IntValue", impl.IntValue(n), 2, n, "")
		checkValid(t, impl.IntValue(n), false)
	}
}

func TestTextValue(t *testing.T) {
	for _, s := range []string{"", "x", "hello", "5", "-0", "\x00\xff", "h\xc3\xa9", "\xc3", strings.Repeat("a", 400), strings.Repeat("\xff", 400)} {
		checkBuilt(t, "TextValue", impl.TextValue(s), 3, 0, s)
		checkValid(t, impl.TextValue(s), true)
	}
	// The length is in bytes: the second text has 201 characters.
	for _, s := range []string{strings.Repeat("a", 401), strings.Repeat("\xc3\xa9", 201), strings.Repeat("a", 10000)} {
		checkBuilt(t, "TextValue", impl.TextValue(s), 3, 0, s)
		checkValid(t, impl.TextValue(s), false)
	}
}

func TestTextValueSharesNoMemory(t *testing.T) {
	s := strings.Clone("memory")
	if got := impl.TextValue(s).Str; got != s || unsafe.StringData(got) == unsafe.StringData(s) {
		t.Errorf("TextValue(s) has the Str %q, in the memory of its argument", got)
	}
}

func TestIntegerKeys(t *testing.T) {
	for _, n := range []int{0, 1, -1, 5, -5, 999999999, 1000000000, -999999999, -1000000000} {
		checkKey(t, intKey(n), true)
		for _, s := range []string{"a", "0", " ", "\x00", strconv.Itoa(n), strings.Repeat("a", 401)} {
			checkKey(t, impl.Key{Num: n, Str: s}, false)
		}
	}
	for _, n := range []int{1000000001, -1000000001, 2000000000, impl.MaxValue, -impl.MaxValue, 1 << 32, 1<<32 + 5, math.MaxInt, math.MinInt, math.MinInt + 1} {
		checkKey(t, intKey(n), false)
		checkKey(t, impl.Key{Num: n, Str: "a"}, false)
	}
}

func TestStringKeys(t *testing.T) {
	for _, s := range []string{
		"", "a", "key", " ", "05", "00", "-0", "+0", "+5", "-05", "-", "+", "--5", "5 ", " 5", "5a", "5.0", "5e1", "0x5", "1_0", "\x005", "5\x00", "\xff", "-a",
		"1000000001", "-1000000001", "01000000000", "-01000000000", "+1000000000", "10000000000", "1000000000000", "-1000000000000",
		"9223372036854775807", "-9223372036854775808", "9223372036854775808", "18446744073709551621", "\xd9\xa5", "\xef\xbc\x95",
		strings.Repeat("a", 399), strings.Repeat("a", 400), strings.Repeat("1", 400), strings.Repeat("0", 400), strings.Repeat("\x00", 400),
	} {
		checkKey(t, strKey(s), true)
		for _, n := range []int{1, -1, 5, impl.MaxInt, math.MaxInt, math.MinInt} {
			checkKey(t, impl.Key{Text: true, Num: n, Str: s}, false)
		}
	}
	for _, s := range []string{
		"0", "5", "-5", "9", "10", "-1", "-10", "1000", "999999999", "1000000000", "-999999999", "-1000000000",
		strings.Repeat("a", 401), strings.Repeat("1", 401), strings.Repeat("\xc3\xa9", 201), strings.Repeat("a", 100000),
	} {
		checkKey(t, strKey(s), false)
		checkKey(t, impl.Key{Text: true, Num: 5, Str: s}, false)
	}
}

// TestAllShortStringKeys has every text of up to four bytes out of some that numbers are written with.
func TestAllShortStringKeys(t *testing.T) {
	decimal := map[string]bool{}
	for n := -999; n <= 9999; n++ {
		decimal[strconv.Itoa(n)] = true
	}
	texts := []string{""}
	for range 5 {
		var longer []string
		for _, s := range texts {
			checkKey(t, strKey(s), !decimal[s])
			for _, c := range "0159-+ a_" {
				longer = append(longer, s+string(c))
			}
		}
		texts = longer
	}
}

func TestEveryDecimalFormIsNoStringKey(t *testing.T) {
	for n := -impl.MaxInt; n <= impl.MaxInt; n += 123457 {
		checkKey(t, strKey(strconv.Itoa(n)), false)
		checkKey(t, strKey(" "+strconv.Itoa(n)), true)
		checkKey(t, intKey(n), true)
	}
	for n := 1; n <= 1000; n++ {
		for _, sign := range []int{1, -1} {
			checkKey(t, strKey(strconv.Itoa(sign*(impl.MaxInt+n))), true)
			checkKey(t, strKey(strconv.Itoa(sign*(impl.MaxInt-n))), false)
			checkKey(t, intKey(sign*(impl.MaxInt+n)), false)
			checkKey(t, intKey(sign*(impl.MaxInt-n)), true)
		}
	}
}

func TestSizes(t *testing.T) {
	null := impl.NullValue()
	for _, c := range []struct {
		v            impl.Value
		weight, nest int
	}{
		{null, 1, 0},
		{impl.IntValue(math.MaxInt), 1, 0},
		{impl.TextValue(strings.Repeat("a", 1000)), 1, 0},
		{number(impl.KindHandle, 3), 1, 0},
		{impl.ArrayValue(), 1, 1},
		{impl.Value{Kind: impl.KindArray, Items: []impl.Entry{}}, 1, 1},
		{list(null), 2, 1},
		{list(nulls(5)...), 6, 1},
		{list(impl.ArrayValue()), 2, 2},
		{list(null, list(null, null), null), 6, 2},
		{list(list(list())), 3, 3},
		{list(list(), list(list()), list()), 5, 3},
		{list(list(list(null)), list()), 5, 3},
		{list(list(), list(list(null))), 5, 3},
		{list(null, list(list(null, null), list(null)), list(list(list()))), 11, 4},
		// Not valid, but weighed all the same.
		{array(-7, impl.Entry{Key: strKey("5")}, impl.Entry{Key: strKey("5")}), 3, 1},
		{impl.Value{Kind: impl.KindArray, Num: 9, Str: "x", Items: []impl.Entry{{Val: number(99, 0)}}}, 2, 1},
		{list(nulls(100000)...), 100001, 1},
		{nested(200, null), 201, 200},
		{nested(1000, impl.ArrayValue()), 1001, 1001},
	} {
		checkSizes(t, c.v, c.weight, c.nest)
	}
}

func TestOnlyArraysHaveSizes(t *testing.T) {
	items := list(impl.NullValue(), list(list())).Items
	for kind := -10; kind <= 20; kind++ {
		v := impl.Value{Kind: kind, Items: items}
		weight, nest := 1, 0
		if kind == impl.KindArray {
			weight, nest = 4, 3
		}
		checkSizes(t, v, weight, nest)
		checkSizes(t, list(v, v), 1+2*weight, 1+nest)
	}
	for _, kind := range []int{math.MinInt, math.MaxInt, 1<<32 + 4} {
		checkSizes(t, impl.Value{Kind: kind, Items: items}, 1, 0)
	}
}

// TestNumbersOfKinds has the least and the greatest Num of every kind, and those around them.
func TestNumbersOfKinds(t *testing.T) {
	for _, c := range []struct{ kind, least, most int }{
		{impl.KindNull, 0, 0},
		{impl.KindBool, 0, 1},
		{impl.KindInt, -1000000000, 1000000000},
		{impl.KindText, 0, 0},
		{impl.KindArray, 0, 0},
		{impl.KindObject, 0, 255},
		{impl.KindClosure, 0, 255},
		{impl.KindGen, 0, 255},
	} {
		for _, n := range []int{c.least, c.most, (c.least + c.most) / 2} {
			checkValid(t, number(c.kind, n), true)
			checkValid(t, list(number(c.kind, n)), true)
		}
		for _, n := range []int{c.least - 1, c.most + 1, c.least - 2, c.most + 2, math.MinInt, math.MaxInt, 1 << 32, -1 << 32} {
			checkValid(t, number(c.kind, n), false)
			checkValid(t, list(number(c.kind, n)), false)
		}
	}
}

func TestOtherKindsAreNotValid(t *testing.T) {
	for _, kind := range []int{impl.KindHandle, -1, -2, -5, -100, 9, 10, 13, 255, 256, 1 << 32, 1<<32 + 1, math.MaxInt, math.MinInt} {
		for _, n := range []int{0, 1, -1, 255} {
			checkValid(t, number(kind, n), false)
			checkValid(t, list(impl.NullValue(), number(kind, n)), false)
		}
		checkValid(t, impl.Value{Kind: kind, Str: "a"}, false)
		checkValid(t, impl.Value{Kind: kind, Items: list(impl.NullValue()).Items, Next: 1}, false)
	}
}

// TestAllFields has every kind with every Num, Str, Next and Items out of some.
func TestAllFields(t *testing.T) {
	nums := []int{0, 1, -1, 2, 255, 256, 1000000000, 1000000001, -1000000000, -1000000001}
	strs := []string{"", "a", "5", strings.Repeat("b", 400), strings.Repeat("b", 401)}
	nexts := []int{0, 1, -1, 6, 1000000000, 1000000001, 1000000002}
	items := [][]impl.Entry{
		nil, {}, {{}}, {{Key: intKey(5)}}, {{Key: strKey("a"), Val: impl.IntValue(7)}}, {{Key: strKey("5")}},
		{{Key: intKey(-1), Val: list()}}, {{}, {}}, {{Val: number(impl.KindObject, 1)}}, {{Val: number(impl.KindHandle, 0)}},
	}
	valid := 0
	for kind := -2; kind <= 10; kind++ {
		for _, n := range nums {
			for _, s := range strs {
				for _, next := range nexts {
					for _, l := range items {
						v := impl.Value{Kind: kind, Num: n, Str: s, Next: next, Items: l}
						checkAsModel(t, v)
						checkAsModel(t, list(v))
						if impl.IsValue(v) {
							valid++
						}
					}
				}
			}
		}
	}
	// Twice, because no items are nil or empty: a null, 2 booleans, 8 integers, 4 texts, and 4 each of objects, closures and generators. And 31 arrays.
	if want := 2*(1+2+8+4+3*4) + 31; valid != want {
		t.Errorf("%d values are valid; want %d", valid, want)
	}
}

func TestNextOfArrays(t *testing.T) {
	a := impl.Entry{Key: strKey("a")}
	at := func(n int) impl.Entry {
		return impl.Entry{Key: intKey(n)}
	}
	for _, c := range []struct {
		next  int
		items []impl.Entry
		want  bool
	}{
		{0, nil, true},
		{1, nil, true},
		{1000000000, nil, true},
		{1000000001, nil, true},
		{1000000002, nil, false},
		{-1, nil, false},
		{math.MaxInt, nil, false},
		{math.MinInt, nil, false},
		{0, []impl.Entry{at(0)}, false},
		{1, []impl.Entry{at(0)}, true},
		{-1, []impl.Entry{at(-2)}, false},
		{0, []impl.Entry{at(-1)}, true},
		{0, []impl.Entry{at(-1000000000)}, true},
		{0, []impl.Entry{at(-1000000001)}, false},
		{5, []impl.Entry{at(4)}, true},
		{5, []impl.Entry{at(5)}, false},
		{5, []impl.Entry{at(6)}, false},
		{1000000000, []impl.Entry{at(1000000000)}, false},
		{1000000001, []impl.Entry{at(1000000000)}, true},
		{1000000001, []impl.Entry{at(1000000001)}, false},
		{1000000002, []impl.Entry{at(1000000001)}, false},
		// Keys need no order, and leave gaps.
		{8, []impl.Entry{at(7), at(2), at(-3), a, at(0)}, true},
		{7, []impl.Entry{at(2), at(7), at(-3), a, at(0)}, false},
		{7, []impl.Entry{at(2), at(-3), a, at(0), at(7)}, false},
		{0, []impl.Entry{a}, true},
		{3, []impl.Entry{a}, true},
		{-1, []impl.Entry{a}, false},
		{1000000002, []impl.Entry{a}, false},
	} {
		v := array(c.next, c.items...)
		checkValid(t, v, c.want)
		checkValid(t, list(v), c.want)
		checkAsModel(t, v)
	}
}

func TestKeysOfArrays(t *testing.T) {
	keyed := func(keys ...impl.Key) impl.Value {
		v := array(100)
		for i, k := range keys {
			v.Items = append(v.Items, impl.Entry{Key: k, Val: impl.IntValue(i)})
		}
		return v
	}
	long := strings.Repeat("k", 400)
	for _, c := range []struct {
		keys []impl.Key
		want bool
	}{
		{[]impl.Key{intKey(1), intKey(2)}, true},
		{[]impl.Key{intKey(1), intKey(1)}, false},
		{[]impl.Key{intKey(1), intKey(2), intKey(3), intKey(1)}, false},
		{[]impl.Key{intKey(1), intKey(-1)}, true},
		{[]impl.Key{strKey("a"), strKey("b")}, true},
		{[]impl.Key{strKey("a"), strKey("A")}, true},
		{[]impl.Key{strKey("a"), strKey("b"), strKey("a")}, false},
		{[]impl.Key{strKey(""), strKey("")}, false},
		{[]impl.Key{strKey(""), intKey(0)}, true},
		{[]impl.Key{intKey(0), strKey("00"), strKey("-0"), strKey("+0")}, true},
		{[]impl.Key{intKey(5), strKey("05")}, true},
		{[]impl.Key{intKey(5), strKey("5")}, false},
		{[]impl.Key{strKey("5")}, false},
		{[]impl.Key{strKey("-5")}, false},
		{[]impl.Key{strKey("0")}, false},
		{[]impl.Key{strKey("-1000000000")}, false},
		{[]impl.Key{strKey("1000000001")}, true},
		{[]impl.Key{strKey(long)}, true},
		{[]impl.Key{strKey(long), strKey(long[1:])}, true},
		{[]impl.Key{strKey(long), strKey("a"), strKey(long)}, false},
		{[]impl.Key{strKey(long + "k")}, false},
		{[]impl.Key{{Text: true, Num: 1, Str: "a"}}, false},
		{[]impl.Key{{Num: 1, Str: "a"}}, false},
		// Keys that are not the same, but one of which is none.
		{[]impl.Key{strKey("a"), {Text: true, Num: 1, Str: "a"}}, false},
		{[]impl.Key{intKey(1), {Num: 1, Str: "a"}}, false},
	} {
		v := keyed(c.keys...)
		checkValid(t, v, c.want)
		checkValid(t, nested(3, v), c.want)
		checkAsModel(t, v)
	}
}

func TestTheSameKeyInTwoArrays(t *testing.T) {
	a := array(1, impl.Entry{Key: strKey("a")}, impl.Entry{Key: intKey(0)})
	b := array(1, impl.Entry{Key: strKey("a"), Val: a}, impl.Entry{Key: intKey(0), Val: a})
	checkValid(t, b, true)
	checkValid(t, list(a, b, a), true)
}

func TestWeightOfValidValues(t *testing.T) {
	null := impl.NullValue()
	for _, c := range []struct {
		v    impl.Value
		want bool
	}{
		{list(nulls(198)...), true},
		{list(nulls(199)...), true},
		{list(nulls(200)...), false},
		{list(nulls(201)...), false},
		{list(nulls(100000)...), false},
		// 199 arrays around a null, and 200 arrays, are the deepest.
		{nested(199, null), true},
		{nested(200, null), false},
		{nested(199, impl.ArrayValue()), true},
		{nested(200, impl.ArrayValue()), false},
		{nested(100000, null), false},
		{list(list(nulls(198)...)), true},
		{list(list(nulls(199)...)), false},
		{list(null, list(nulls(197)...)), true},
		{list(null, list(nulls(198)...)), false},
		{list(list(nulls(197)...), null), true},
		{list(list(nulls(198)...), null), false},
		{list(list(nulls(98)...), list(nulls(99)...)), true},
		{list(list(nulls(99)...), list(nulls(99)...)), false},
		{nested(100, list(nulls(99)...)), true},
		{nested(100, list(nulls(100)...)), false},
		{nested(99, list(nested(99, null), null)), false},
		{nested(98, list(nested(99, null), null)), true},
	} {
		checkValid(t, c.v, c.want)
		if light := impl.Weight(c.v) <= 200; light != c.want {
			t.Errorf("Weight(%s) = %d", brief(c.v), impl.Weight(c.v))
		}
	}
}

// TestEveryWeight reaches and passes the limit with arrays of every depth.
func TestEveryWeight(t *testing.T) {
	for depth := range 199 {
		width := 199 - depth
		checkSizes(t, nested(depth, list(nulls(width)...)), 200, depth+1)
		checkValid(t, nested(depth, list(nulls(width)...)), true)
		checkValid(t, nested(depth, list(nulls(width+1)...)), false)
		checkValid(t, nested(depth+1, list(nulls(width)...)), false)
	}
}

func TestDeepItemsAreChecked(t *testing.T) {
	valid := []impl.Value{
		impl.NullValue(), impl.BoolValue(true), impl.IntValue(-3), impl.TextValue("x"), impl.ArrayValue(),
		number(impl.KindObject, 255), number(impl.KindClosure, 0), number(impl.KindGen, 1), array(9, impl.Entry{Key: strKey("k")}),
	}
	invalid := []impl.Value{
		number(impl.KindNull, 1), number(impl.KindBool, 2), number(impl.KindBool, -1), impl.IntValue(impl.MaxInt + 1), impl.TextValue(strings.Repeat("x", 401)),
		number(impl.KindHandle, 0), number(impl.KindObject, 256), number(impl.KindGen, -1), number(9, 0), number(-1, 0),
		array(0, impl.Entry{}), array(-1), array(5, impl.Entry{}, impl.Entry{}), array(0, impl.Entry{Key: strKey("7")}),
		{Kind: impl.KindInt, Str: "x"}, {Kind: impl.KindBool, Next: 1}, {Next: -1}, {Kind: impl.KindText, Items: []impl.Entry{{}}}, {Kind: impl.KindArray, Str: "x"},
	}
	for depth := range 195 {
		for _, v := range valid {
			checkValid(t, nested(depth, v), true)
			checkValid(t, nested(depth, list(v, impl.NullValue())), true)
		}
		for _, v := range invalid {
			checkValid(t, nested(depth, v), false)
			checkValid(t, nested(depth, list(impl.NullValue(), v)), false)
		}
	}
	for i := range 199 {
		v := list(nulls(199)...)
		checkValid(t, v, true)
		v.Items[i].Val.Num = 1
		checkValid(t, v, false)
	}
}

// TestFieldsThatAKindDoesNotHave sets a field of a value that is valid without it.
func TestFieldsThatAKindDoesNotHave(t *testing.T) {
	for kind := range 9 {
		v := number(kind, 0)
		if kind == impl.KindHandle {
			continue
		}
		checkValid(t, v, true)
		v.Items = []impl.Entry{}
		checkValid(t, v, true)
		if kind != impl.KindText {
			w := v
			w.Str = "a"
			checkValid(t, w, false)
		}
		if kind == impl.KindArray {
			continue
		}
		for _, next := range []int{1, -1, impl.MaxInt, impl.MaxInt + 1, math.MaxInt} {
			w := v
			w.Next = next
			checkValid(t, w, false)
		}
		for _, items := range [][]impl.Entry{list(impl.NullValue()).Items, {{Key: strKey("a")}}, list(nulls(500)...).Items} {
			w := v
			w.Items = items
			checkValid(t, w, false)
			checkValid(t, list(w), false)
			checkSizes(t, w, modelWeight(w), modelNest(w))
		}
	}
}

func TestPlainKinds(t *testing.T) {
	for kind := -5; kind <= 15; kind++ {
		want := 0 <= kind && kind <= 4
		for depth := range 4 {
			checkPlain(t, nested(depth, number(kind, 0)), want)
			checkPlain(t, nested(depth, list(number(kind, 0), impl.NullValue())), want)
			checkPlain(t, nested(depth, list(impl.NullValue(), list(), number(kind, 0))), want)
			checkPlain(t, nested(depth, list(list(list(number(kind, 0))), list(list()))), want)
		}
	}
	for _, kind := range []int{math.MinInt, math.MaxInt, 1 << 32, 1<<32 + 2} {
		checkPlain(t, number(kind, 0), false)
	}
}

// TestPlainValuesNeedNotBeValid has values of which only the kinds count.
func TestPlainValuesNeedNotBeValid(t *testing.T) {
	object := []impl.Entry{{Val: number(impl.KindObject, 0)}}
	for _, kind := range []int{impl.KindNull, impl.KindBool, impl.KindInt, impl.KindText} {
		checkPlain(t, impl.Value{Kind: kind, Num: math.MinInt, Str: "x", Next: -4, Items: object}, true)
	}
	checkPlain(t, impl.Value{Kind: impl.KindArray, Num: math.MinInt, Str: "x", Next: -4, Items: []impl.Entry{{}, {}}}, true)
	checkPlain(t, impl.Value{Kind: impl.KindArray, Num: math.MinInt, Str: "x", Next: -4, Items: object}, false)
	checkPlain(t, impl.Value{Kind: impl.KindObject, Items: []impl.Entry{{}}}, false)
	checkPlain(t, list(nulls(1000)...), true)
	checkPlain(t, list(append(nulls(1000), number(impl.KindGen, 3))...), false)
	checkPlain(t, array(0, impl.Entry{Key: impl.Key{Text: true, Num: 4, Str: "5"}}), true)
}

func TestIdentical(t *testing.T) {
	a, b := impl.Entry{Key: strKey("a"), Val: impl.IntValue(1)}, impl.Entry{Key: strKey("b"), Val: impl.IntValue(2)}
	for _, c := range []struct {
		a, b impl.Value
		want bool
	}{
		{impl.NullValue(), impl.NullValue(), true},
		{impl.NullValue(), impl.BoolValue(false), false},
		{impl.NullValue(), impl.IntValue(0), false},
		{impl.NullValue(), impl.TextValue(""), false},
		{impl.NullValue(), impl.ArrayValue(), false},
		{impl.BoolValue(true), impl.BoolValue(true), true},
		{impl.BoolValue(true), impl.BoolValue(false), false},
		{impl.BoolValue(true), impl.IntValue(1), false},
		{impl.IntValue(5), impl.IntValue(5), true},
		{impl.IntValue(5), impl.IntValue(-5), false},
		{impl.IntValue(5), impl.TextValue("5"), false},
		{impl.TextValue("x"), impl.TextValue("x"), true},
		{impl.TextValue("x"), impl.TextValue("X"), false},
		{impl.TextValue("x"), impl.TextValue("xy"), false},
		{impl.TextValue("\xff"), impl.TextValue("\xfe"), false},
		{number(6, 2), number(6, 2), true},
		{number(6, 2), number(6, 3), false},
		{number(6, 2), number(7, 2), false},
		{number(6, 2), number(8, 2), false},
		{impl.ArrayValue(), impl.ArrayValue(), true},
		{impl.ArrayValue(), impl.Value{Kind: impl.KindArray, Items: []impl.Entry{}}, true},
		{impl.ArrayValue(), number(impl.KindHandle, 0), false},
		{impl.ArrayValue(), list(impl.NullValue()), false},
		{array(0, a, b), array(0, a, b), true},
		{array(0, a, b), array(0, b, a), false},
		{array(0, a, b), array(0, a), false},
		{array(0, a, b), array(0, b), false},
		{array(0, a, b), array(0, a, b, b), false},
		{array(0, a), array(0, impl.Entry{Key: strKey("a"), Val: impl.IntValue(2)}), false},
		{array(0, a), array(0, impl.Entry{Key: strKey("b"), Val: impl.IntValue(1)}), false},
		{array(0, impl.Entry{Key: intKey(0)}), array(0, impl.Entry{Key: strKey("")}), false},
		{array(0, impl.Entry{Key: intKey(5)}), array(0, impl.Entry{Key: strKey("5")}), false},
		{array(0, impl.Entry{Key: intKey(5)}), array(0, impl.Entry{Key: impl.Key{Num: 5, Str: "5"}}), false},
		{array(0, impl.Entry{Key: strKey("k")}), array(0, impl.Entry{Key: impl.Key{Text: true, Num: 1, Str: "k"}}), false},
		// Another Next, at the outside and deep inside.
		{array(0, a, b), array(7, a, b), true},
		{array(-1), array(math.MaxInt), true},
		{nested(5, array(1, a)), nested(5, array(2, a)), true},
		{impl.Value{Kind: impl.KindInt, Num: 1, Next: 3}, impl.IntValue(1), true},
		// Other fields, which are not valid.
		{impl.Value{Kind: impl.KindInt, Num: 1, Str: "a"}, impl.IntValue(1), false},
		{impl.Value{Kind: impl.KindText, Num: 1, Str: "a"}, impl.TextValue("a"), false},
		{impl.Value{Kind: impl.KindArray, Num: 1}, impl.ArrayValue(), false},
		{impl.Value{Kind: impl.KindArray, Str: "a"}, impl.ArrayValue(), false},
		{impl.Value{Kind: 99}, impl.Value{Kind: 99}, true},
		{impl.Value{Kind: 99}, impl.Value{Kind: -99}, false},
		// Items count for every kind.
		{impl.Value{Items: []impl.Entry{a}}, impl.NullValue(), false},
		{impl.Value{Items: []impl.Entry{a}}, impl.Value{Items: []impl.Entry{a}}, true},
		{impl.Value{Items: []impl.Entry{a}}, impl.Value{Items: []impl.Entry{b}}, false},
		{number(impl.KindHandle, 1), impl.Value{Kind: impl.KindHandle, Num: 1, Items: []impl.Entry{a}}, false},
		{list(impl.Value{Kind: 7, Items: list(list(impl.IntValue(1))).Items}), list(impl.Value{Kind: 7, Items: list(list(impl.IntValue(2))).Items}), false},
	} {
		for depth := range 3 {
			checkIdentical(t, nested(depth, c.a), nested(depth, c.b), c.want)
			checkIdentical(t, list(list(), nested(depth, c.a)), list(list(), nested(depth, c.b)), c.want)
			checkIdentical(t, list(nested(depth, c.a), list()), list(nested(depth, c.b), list()), c.want)
		}
	}
}

// smallValues has values of all kinds, and all arrays of up to two items out of some of them.
func smallValues() []impl.Value {
	values := []impl.Value{
		impl.NullValue(), impl.BoolValue(false), impl.BoolValue(true), impl.IntValue(0), impl.IntValue(1), impl.TextValue(""), impl.TextValue("a"),
		impl.ArrayValue(), number(impl.KindHandle, 0), number(impl.KindObject, 1), number(impl.KindClosure, 1), number(impl.KindGen, 1), number(9, 0),
	}
	inner := append(slices.Clone(values[:6]), impl.ArrayValue(), list(impl.NullValue()), number(impl.KindObject, 1))
	keys := []impl.Key{intKey(0), intKey(1), strKey("a"), strKey("1")}
	for _, x := range inner {
		for _, k := range keys {
			values = append(values, array(1, impl.Entry{Key: k, Val: x}))
		}
		for _, y := range inner {
			values = append(values, list(x, y), array(2, impl.Entry{Key: strKey("a"), Val: x}, impl.Entry{Key: keys[1], Val: y}))
		}
	}
	return values
}

func TestSmallValues(t *testing.T) {
	values := smallValues()
	for i, a := range values {
		checkAsModel(t, a)
		for j, b := range values {
			checkIdentical(t, a, b, modelIdentical(a, b))
			checkIdentical(t, list(a, b), list(values[j], values[i]), modelIdentical(a, b))
		}
	}
}

// checkFields checks, at any depth, the limits of a valid value.
func checkFields(t *testing.T, v impl.Value) {
	t.Helper()
	if len(v.Items) >= impl.MaxWeight || len(v.Str) > impl.MaxText || v.Num > impl.MaxInt || v.Num < -impl.MaxInt {
		t.Errorf("%s is valid", brief(v))
	}
	for _, e := range v.Items {
		if !impl.IsKey(e.Key) {
			t.Errorf("%s is valid", brief(v))
		}
		checkFields(t, e.Val)
	}
}

// TestValidValuesAreSmall is the promise in its own words.
func TestValidValuesAreSmall(t *testing.T) {
	valid := 0
	for _, v := range smallValues() {
		for _, w := range []impl.Value{v, nested(195, v), nested(197, v), list(append(nulls(194), v)...), list(append(nulls(197), v)...), doubled(5, v), doubled(6, v), doubled(8, v)} {
			checkValid(t, w, modelIsValue(w))
			if !impl.IsValue(w) {
				continue
			}
			valid++
			checkFields(t, w)
			if impl.Weight(w) > impl.MaxWeight || impl.Nest(w) > impl.MaxWeight {
				t.Errorf("%s is valid, but has the weight %d", brief(w), impl.Weight(w))
			}
			for _, e := range w.Items {
				checkValid(t, e.Val, true)
			}
		}
	}
	if valid < 200 {
		t.Errorf("%d values are valid", valid)
	}
}

func TestKindName(t *testing.T) {
	for kind, want := range []string{"null", "bool", "int", "string", "array", "array", "object", "closure", "generator"} {
		if got := impl.KindName(kind); got != want {
			t.Errorf("KindName(%d) = %q; want %q", kind, got, want)
		}
	}
	for _, kind := range []int{-1, -2, -9, 9, 10, 17, 255, 256, 1 << 32, 1<<32 + 4, math.MaxInt, math.MinInt, math.MinInt + 8} {
		if got := impl.KindName(kind); got != "" {
			t.Errorf("KindName(%d) = %q; want the empty text", kind, got)
		}
	}
}

// TestArraysNestedDeeperThanCalls would run out of stack if a function called itself for each array.
func TestArraysNestedDeeperThanCalls(t *testing.T) {
	defer debug.SetMaxStack(debug.SetMaxStack(1 << 20))
	const depth = 200000
	deep := nested(depth, impl.IntValue(1))
	checkSizes(t, deep, depth+1, depth)
	checkValid(t, deep, false)
	checkPlain(t, deep, true)
	checkIdentical(t, deep, deep, true)
	checkIdentical(t, deep, deep.Items[0].Val, false)
}

func TestDeepAndWideArrays(t *testing.T) {
	for _, last := range []impl.Value{impl.NullValue(), impl.IntValue(1), number(impl.KindObject, 0), number(99, 0)} {
		plain := impl.IsPlain(last)
		v := list(append(nulls(50000), nested(50000, last))...)
		checkSizes(t, v, 100002, 50001)
		checkValid(t, v, false)
		checkPlain(t, v, plain)
		checkIdentical(t, v, list(append(nulls(50000), nested(50000, last))...), true)
		checkIdentical(t, v, list(append(nulls(50000), nested(50000, impl.TextValue("z")))...), false)
		checkIdentical(t, v, list(append(nulls(50000), nested(49999, last))...), false)
	}
}

// TestArraysThatShareTheirItems has arrays that would take longer than anybody waits if their items were gone through one by one. Their weights are sums of Go's int.
func TestArraysThatShareTheirItems(t *testing.T) {
	for _, c := range []struct{ depth, weight int }{
		{1, 3},
		{6, 127},
		{7, 255},
		{40, 1<<41 - 1},
		{61, 1<<62 - 1},
		{62, math.MaxInt},
		{63, -1},
		{64, -1},
		{200, -1},
		{5000, -1},
	} {
		null, object := doubled(c.depth, impl.NullValue()), doubled(c.depth, number(impl.KindObject, 3))
		checkSizes(t, null, c.weight, c.depth)
		checkValid(t, null, c.depth <= 6)
		checkPlain(t, null, true)
		checkPlain(t, object, false)
		checkIdentical(t, null, doubled(c.depth, impl.NullValue()), true)
		checkIdentical(t, null, object, false)
		checkIdentical(t, null, doubled(c.depth+1, impl.NullValue()), false)
	}
	// Only one of the two shares its items.
	one, two := list(impl.IntValue(1)), list(impl.IntValue(2))
	checkIdentical(t, doubled(1, one), list(list(impl.IntValue(1)), list(impl.IntValue(1))), true)
	checkIdentical(t, doubled(1, one), list(list(impl.IntValue(1)), two), false)
	checkIdentical(t, doubled(1, one), list(two, list(impl.IntValue(1))), false)
	checkIdentical(t, list(one, two, one), list(one, one, one), false)
	// One of the items is an array of the first items of another one.
	v := list(impl.IntValue(1), impl.IntValue(2), impl.NullValue())
	v.Items[2].Val = array(2, v.Items[:2]...)
	checkAsModel(t, v)
	checkSizes(t, v, 6, 2)
	checkValid(t, v, true)
	checkSizes(t, list(v, v.Items[2].Val, list(v)), 17, 4)
}

func TestArraysThatHoldThemselves(t *testing.T) {
	others := endlessValues()
	for i, v := range endlessValues() {
		checkSizes(t, v, math.MaxInt, math.MaxInt)
		checkSizes(t, list(impl.NullValue(), v), math.MaxInt, math.MaxInt)
		checkValid(t, v, false)
		checkPlain(t, v, true)
		checkPlain(t, list(v, number(impl.KindGen, 0)), false)
		checkIdentical(t, v, v, true)
		checkIdentical(t, v, others[i], true)
		checkIdentical(t, list(v, impl.NullValue()), list(others[i], impl.BoolValue(false)), false)
		checkIdentical(t, v, impl.IntValue(1), false)
	}
	// Values that are no arrays hold nothing, whatever their items are.
	v := impl.Value{Kind: impl.KindObject, Items: []impl.Entry{{}}}
	v.Items[0].Val = v
	checkSizes(t, v, 1, 0)
	checkValid(t, v, false)
	checkPlain(t, v, false)
	checkIdentical(t, v, v, true)
}

// copied copies a value, and what lies behind the items in their memory.
func copied(v impl.Value) impl.Value {
	if v.Items == nil {
		return v
	}
	items := make([]impl.Entry, cap(v.Items))
	for i, e := range v.Items[:cap(v.Items)] {
		items[i] = impl.Entry{Key: e.Key, Val: copied(e.Val)}
	}
	v.Items = items[:len(v.Items)]
	return v
}

func TestValuesStayAsTheyWere(t *testing.T) {
	spare := impl.Entry{Key: strKey("spare"), Val: impl.IntValue(77)}
	for _, v := range smallValues() {
		w := list(v, impl.TextValue("x"), list(v))
		w.Items = append(w.Items, spare, spare)[:3]
		before := copied(w)
		impl.Weight(w)
		impl.Nest(w)
		impl.IsValue(w)
		impl.IsPlain(w)
		impl.Identical(w, w)
		impl.Identical(w, before)
		whole, wholeBefore := w, before
		whole.Items, wholeBefore.Items = w.Items[:5], before.Items[:5]
		if !reflect.DeepEqual(whole, wholeBefore) {
			t.Fatalf("the value %s has become %s", brief(wholeBefore), brief(whole))
		}
	}
}

func TestBuiltValuesShareNoMemory(t *testing.T) {
	for _, build := range []func() impl.Value{
		impl.NullValue, impl.ArrayValue, func() impl.Value { return impl.BoolValue(true) },
		func() impl.Value { return impl.IntValue(3) }, func() impl.Value { return impl.TextValue("x") },
	} {
		first := build()
		first.Items = append(first.Items, impl.Entry{Val: impl.IntValue(1)})
		second := build()
		second.Items = append(second.Items, impl.Entry{Val: impl.IntValue(2)})
		if first.Items[0].Val.Num != 1 || len(build().Items) != 0 {
			t.Errorf("%s shares its items", brief(first))
		}
	}
}

func TestValuesAreRepeatable(t *testing.T) {
	for _, v := range smallValues() {
		checkAsModel(t, v)
		impl.IsValue(list(v, v))
		impl.IsPlain(number(99, 1))
		impl.Identical(v, impl.NullValue())
		checkAsModel(t, v)
	}
}
