package tests

import (
	"fmt"
	"math"
	"math/rand"
	"reflect"
	"runtime/debug"
	"slices"
	"strings"
	"testing"

	"loop.example/g03011/impl"
)

// Promise 9: scalars are ordered, and sorting loses nothing.

// The orders as the document counts them.
const (
	less    = -1
	equal   = 0
	greater = 1
	none    = 2
)

func opposite(order int) int {
	if order == none {
		return none
	}
	return -order
}

func orderOf(isLess, isGreater bool) int {
	switch {
	case isLess:
		return less
	case isGreater:
		return greater
	}
	return equal
}

func isKind(v impl.Value, kinds ...int) bool {
	return slices.Contains(kinds, v.Kind)
}

// modelCompare goes through the eight rules, by the kinds as the document counts them.
func modelCompare(a, b impl.Value) int {
	x, y := modelConversion(a), modelConversion(b)
	switch {
	case isKind(a, 0) && isKind(b, 3):
		return orderOf(b.Str != "", false)
	case isKind(a, 3) && isKind(b, 0):
		return orderOf(false, a.Str != "")
	case isKind(a, 0, 1) || isKind(b, 0, 1):
		return orderOf(!x.isTrue && y.isTrue, x.isTrue && !y.isTrue)
	case x.numericErr == 0 && y.numericErr == 0:
		return orderOf(x.numeric < y.numeric, x.numeric > y.numeric)
	case isKind(a, 2, 3) && isKind(b, 2, 3):
		return orderOf(x.text < y.text, x.text > y.text)
	case isKind(a, 4) && isKind(b, 4):
		return modelCompareItems(a.Items, b.Items)
	case isKind(a, 4):
		return greater
	case isKind(b, 4):
		return less
	case a.Kind == b.Kind && a.Num == b.Num:
		return equal
	}
	return none
}

func modelCompareItems(a, b []impl.Entry) int {
	if len(a) != len(b) {
		return orderOf(len(a) < len(b), len(a) > len(b))
	}
	for _, e := range a {
		at := slices.IndexFunc(b, func(other impl.Entry) bool { return other.Key == e.Key })
		if at < 0 {
			return none
		}
		if order := modelCompare(e.Val, b[at].Val); order != equal {
			return order
		}
	}
	return equal
}

// modelSort looks for the place of each value as the document words it first: behind the last value that is not greater.
func modelSort(l []impl.Value) []impl.Value {
	var sorted []impl.Value
	for _, v := range l {
		place := 0
		for i, before := range sorted {
			if modelCompare(before, v) != greater {
				place = i + 1
			}
		}
		longer := append([]impl.Value{}, sorted[:place]...)
		longer = append(longer, v)
		sorted = append(longer, sorted[place:]...)
	}
	return sorted
}

func modelIsOrdered(l []impl.Value) bool {
	for i := range l {
		if i > 0 && modelCompare(l[i-1], l[i]) == greater {
			return false
		}
	}
	return true
}

func checkCompared(t *testing.T, a, b impl.Value, want int) {
	t.Helper()
	if got := impl.CompareValues(a, b); got != want {
		t.Errorf("CompareValues(%s, %s) = %d; want %d", brief(a), brief(b), got, want)
	}
	if got := impl.LooseEqual(a, b); got != (want == equal) {
		t.Errorf("LooseEqual(%s, %s) = %v; want %v", brief(a), brief(b), got, want == equal)
	}
}

// checkOrder checks two values on either side, where the other side gives the opposite order.
func checkOrder(t *testing.T, a, b impl.Value, want int) {
	t.Helper()
	checkCompared(t, a, b, want)
	checkCompared(t, b, a, opposite(want))
}

// checkTextOrder checks two texts.
func checkTextOrder(t *testing.T, s, r string, want int) {
	t.Helper()
	checkOrder(t, impl.TextValue(s), impl.TextValue(r), want)
}

func briefList(l []impl.Value) string {
	if len(l) > 8 {
		return fmt.Sprintf("%d values", len(l))
	}
	parts := make([]string, len(l))
	for i, v := range l {
		parts[i] = brief(v)
	}
	return strings.Join(parts, ", ")
}

func checkSorted(t *testing.T, l, want []impl.Value) {
	t.Helper()
	if got := impl.SortValues(l); !slices.EqualFunc(got, want, isSame) {
		t.Errorf("SortValues(%s) = %s; want %s", briefList(l), briefList(got), briefList(want))
	}
}

func checkIsOrdered(t *testing.T, l []impl.Value, want bool) {
	t.Helper()
	if got := impl.IsOrdered(l); got != want {
		t.Errorf("IsOrdered(%s) = %v; want %v", briefList(l), got, want)
	}
}

func checkListAsModel(t *testing.T, l []impl.Value) {
	t.Helper()
	checkSorted(t, l, modelSort(l))
	checkIsOrdered(t, l, modelIsOrdered(l))
}

func intValues(numbers ...int) []impl.Value {
	l := make([]impl.Value, len(numbers))
	for i, n := range numbers {
		l[i] = impl.IntValue(n)
	}
	return l
}

func textValues(strs ...string) []impl.Value {
	l := make([]impl.Value, len(strs))
	for i, s := range strs {
		l[i] = impl.TextValue(s)
	}
	return l
}

// scalars has null, both booleans, and integers and texts that are read as numbers, begin with one, or have none.
func scalars() []impl.Value {
	l := []impl.Value{impl.NullValue(), impl.BoolValue(false), impl.BoolValue(true)}
	l = append(l, intValues(0, 1, -1, 2, 5, -5, 9, 10, 11, 100, 255, 256, impl.MaxInt-1, impl.MaxInt, -impl.MaxInt, 1-impl.MaxInt)...)
	l = append(l, textValues(
		"", "0", "-0", "00", "-00", "1", "01", "001", "-1", "-01", "5", "05", "9", "10", "010", "100", "-5", "-10",
		"999999999", "1000000000", "-1000000000", "0000000001", "00000000001", "1000000001", "-1000000001", "99999999999",
		"1x", "1 ", " 1", "+1", "1.0", "1e1", "9a", "10a", "-1x", "-", "--1", "0x1", "0 ", " ", "\x00", "\t",
		"a", "A", "b", "ab", "abc", "B", "aa", "null", "true", "false", "\x7e", "\x7f", "\x80", "\xc3", "\xc3\xa9", "\xfe", "\xff", "\xff\xff", "a\xff", "a\x00",
		strings.Repeat("a", 400), strings.Repeat("1", 400), strings.Repeat("0", 400),
	)...)
	return l
}

// unlikeKinds has values that are no scalars and no arrays, some of them of kinds that there are not.
func unlikeKinds() []impl.Value {
	var l []impl.Value
	for _, kind := range []int{5, 6, 7, 8, 9, 10, -1, -2, 255, 256, 1 << 32, 1<<32 + 1, 1<<32 + 3, 1<<32 + 4, math.MaxInt, math.MinInt} {
		l = append(l, number(kind, 0), number(kind, 1), number(kind, 7))
	}
	return l
}

// someArrays has arrays of several lengths, with the same keys in another order, and with values that cannot be compared.
func someArrays() []impl.Value {
	one, object := impl.IntValue(1), number(impl.KindObject, 1)
	a, b, zero, unit := strKey("a"), strKey("b"), intKey(0), intKey(1)
	return []impl.Value{
		impl.ArrayValue(), array(7), list(impl.NullValue()), list(one), list(impl.IntValue(2)), list(impl.TextValue("1")), list(impl.TextValue("x")), list(object), list(number(impl.KindObject, 2)),
		array(0, entry(a, one)), array(0, entry(b, one)), array(0, entry(strKey(""), one)), array(2, entry(unit, one)),
		list(one, impl.IntValue(2)), list(impl.IntValue(2), one), list(object, one), list(one, object), list(object, object),
		array(2, entry(unit, impl.IntValue(2)), entry(zero, one)), array(2, entry(unit, one), entry(zero, impl.IntValue(2))),
		array(0, entry(a, one), entry(b, object)), array(0, entry(b, object), entry(a, one)), array(0, entry(a, object), entry(b, one)), array(0, entry(b, impl.IntValue(2)), entry(a, impl.IntValue(2))),
		list(list(one)), list(list(object)), list(impl.ArrayValue()), list(list(one), impl.ArrayValue()), nested(5, one), nested(5, object), nested(5, impl.TextValue("01")),
	}
}

// allValues has values of all kinds.
func allValues() []impl.Value {
	return slices.Concat(scalars(), unlikeKinds(), someArrays(), smallValues())
}

func TestOrderConstants(t *testing.T) {
	if got := []int{impl.OrderLess, impl.OrderEqual, impl.OrderGreater, impl.OrderNone}; !slices.Equal(got, []int{-1, 0, 1, 2}) {
		t.Error(got)
	}
}

func TestNullAndTexts(t *testing.T) {
	null := impl.NullValue()
	checkOrder(t, null, impl.TextValue(""), equal)
	// Those with which a boolean, or the number 0, would be equal to null are greater too.
	for _, s := range []string{"0", "-0", "00", "-1", "-1000000000", "1", "a", " ", "\x00", "\x7f", "\x80", "\xff", "null", strings.Repeat("a", 401)} {
		checkOrder(t, null, impl.TextValue(s), less)
	}
	// Only the kind of null counts, and not the fields that it does not have.
	odd := impl.Value{Num: 7, Str: "m", Next: 3, Items: list(null).Items}
	checkOrder(t, odd, impl.TextValue(""), equal)
	checkOrder(t, odd, impl.TextValue("a"), less)
	checkOrder(t, odd, impl.TextValue("z"), less)
	checkOrder(t, odd, null, equal)
}

// TestNullAndBooleansWithEveryKind has, of every kind, what is false and what is true.
func TestNullAndBooleansWithEveryKind(t *testing.T) {
	null, no, yes := impl.NullValue(), impl.BoolValue(false), impl.BoolValue(true)
	isFalse := []impl.Value{null, no, impl.IntValue(0), impl.ArrayValue(), array(9), {Kind: impl.KindArray, Num: 4, Str: "x"}}
	isTrue := append(intValues(1, -1, 2, 5, -impl.MaxInt, impl.MaxInt, math.MinInt), yes, number(impl.KindBool, 2), number(impl.KindBool, -1), list(null), list(no), list(impl.ArrayValue()), nested(9, null))
	isTrue = append(isTrue, unlikeKinds()...)
	for _, v := range isFalse {
		checkOrder(t, null, v, equal)
		checkOrder(t, no, v, equal)
		checkOrder(t, yes, v, greater)
	}
	for _, v := range isTrue {
		checkOrder(t, null, v, less)
		checkOrder(t, no, v, less)
		checkOrder(t, yes, v, equal)
	}
	for _, s := range []string{"", "0"} {
		checkOrder(t, no, impl.TextValue(s), equal)
		checkOrder(t, yes, impl.TextValue(s), greater)
	}
	for _, s := range []string{"1", "-1", "2", "00", "-0", "0.0", " ", "a", "false", "\x00", "\xff"} {
		checkOrder(t, no, impl.TextValue(s), less)
		checkOrder(t, yes, impl.TextValue(s), equal)
	}
}

// TestTheFirstRuleCounts has pairs for which the rules that apply give different orders.
func TestTheFirstRuleCounts(t *testing.T) {
	null, no, yes := impl.NullValue(), impl.BoolValue(false), impl.BoolValue(true)
	for _, c := range []struct {
		rules string
		a, b  impl.Value
		want  int
	}{
		{"1 before 2", null, impl.TextValue("0"), less},
		{"1 before 3", null, impl.TextValue("-5"), less},
		{"2 before 3", null, impl.IntValue(-5), less},
		{"2 before 3", no, impl.IntValue(-5), less},
		{"2 before 3", yes, impl.IntValue(5), equal},
		{"2 before 3", yes, impl.TextValue("5"), equal},
		{"2 before 3", yes, impl.IntValue(-5), equal},
		{"2 before 3", no, impl.TextValue("00"), less},
		{"2 before 4", yes, impl.TextValue("x"), equal},
		{"2 before 6", null, impl.ArrayValue(), equal},
		{"2 before 6", no, impl.ArrayValue(), equal},
		{"2 before 6", yes, impl.ArrayValue(), greater},
		{"2 before 6", yes, list(null), equal},
		{"2 before 7", number(impl.KindBool, 1), number(impl.KindBool, 3), equal},
		{"2 before 7", number(impl.KindNull, 1), number(impl.KindNull, 3), equal},
		{"2 before 8", yes, number(impl.KindObject, 3), equal},
		{"2 before 8", null, number(99, 3), less},
		{"3 before 4", impl.IntValue(10), impl.IntValue(9), greater},
		{"3 before 4", impl.IntValue(-2), impl.IntValue(-1), less},
		{"3 before 4", impl.TextValue("10"), impl.TextValue("9"), greater},
		{"3 before 4", impl.TextValue("01"), impl.TextValue("1"), equal},
		{"3 before 4", impl.TextValue("010"), impl.IntValue(9), greater},
		{"3 before 7", impl.TextValue("1"), impl.TextValue("2"), less},
		{"4 before 7", impl.TextValue("x"), impl.TextValue("y"), less},
		{"5 before 6", list(null), impl.ArrayValue(), greater},
		{"5 before 6", impl.ArrayValue(), list(null), less},
		{"5 before 7", list(impl.IntValue(1)), list(impl.IntValue(2)), less},
		{"5 before 7", list(null), array(1, entry(strKey("a"), null)), none},
		{"6 before 8", list(null), number(impl.KindObject, 0), greater},
	} {
		t.Run(c.rules, func(t *testing.T) { checkOrder(t, c.a, c.b, c.want) })
	}
}

func TestIntegersAreCompared(t *testing.T) {
	// Those beyond MaxInt are not valid, but compared as they are; no difference of them is taken.
	ordered := []int{math.MinInt, math.MinInt + 1, -1 << 32, -impl.MaxInt - 1, -impl.MaxInt, -256, -10, -9, -2, -1, 0, 1, 2, 9, 10, 11, 100, 256, impl.MaxInt - 1, impl.MaxInt, impl.MaxInt + 1, 1 << 32, math.MaxInt - 1, math.MaxInt}
	for i, m := range ordered {
		for j, n := range ordered {
			checkCompared(t, impl.IntValue(m), impl.IntValue(n), orderOf(i < j, i > j))
		}
	}
}

// TestIntegersAndNumericTexts has several forms of the same numbers.
func TestIntegersAndNumericTexts(t *testing.T) {
	forms := [][]impl.Value{
		append(textValues("-1000000000"), intValues(-1000000000)...),
		append(textValues("-10", "-010", "-0000000010"), intValues(-10)...),
		append(textValues("-9", "-09"), intValues(-9)...),
		append(textValues("-1", "-01", "-001"), intValues(-1)...),
		append(textValues("0", "-0", "00", "-00", "0000000000", "-0000000000"), intValues(0)...),
		append(textValues("1", "01", "0000000001"), intValues(1)...),
		append(textValues("9", "09"), intValues(9)...),
		append(textValues("10", "010"), intValues(10)...),
		append(textValues("999999999", "0999999999"), intValues(999999999)...),
		append(textValues("1000000000"), intValues(1000000000)...),
	}
	for i, these := range forms {
		for j, those := range forms {
			for _, a := range these {
				for _, b := range those {
					checkCompared(t, a, b, orderOf(i < j, i > j))
				}
			}
		}
	}
}

// TestTextsThatAreNoNumbers has a text that is not numeric with one that is, and with integers: their bytes count.
func TestTextsThatAreNoNumbers(t *testing.T) {
	for _, c := range []struct {
		s, r string
		want int
	}{
		{"", "", equal}, {"", "0", less}, {"", "-5", less}, {"", "\x00", less}, {"", "a", less}, {"a", "a", equal}, {"a", "b", less}, {"a", "A", greater}, {"a", "aa", less}, {"ab", "b", less}, {"a", "a\x00", less},
		{"10", "9a", less}, {"10a", "9a", less}, {"10a", "9", less}, {"9a", "9", greater}, {"1x", "1", greater}, {"1x", "2", less}, {"1x", "1x", equal}, {"01x", "1x", less}, {"-1x", "-2", less}, {"-2", "-1", less}, {"-2x", "-1x", greater},
		{"1 ", "1", greater}, {" 1", "1", less}, {"+1", "1", less}, {"1.0", "1", greater}, {"1e1", "10", greater}, {"0x1", "1", less}, {"-", "-1", less}, {"-", "0", less}, {"--1", "-1", less},
		// Numbers that are too great, or have too many digits, are no numeric texts.
		{"1000000001", "1000000000", greater}, {"1000000001", "999999999", less}, {"-1000000001", "-1000000000", greater}, {"00000000001", "1", less}, {"00000000001", "00000000002", less}, {"00000000000", "0", greater}, {"99999999999", "100000000000", greater}, {"18446744073709551617", "1", greater},
		// Bytes are not signed, and no characters.
		{"\x7e", "\x7f", less}, {"\x7f", "\x80", less}, {"~", "\xff", less}, {"a\x7f", "a\x80", less}, {"z", "\x80", less}, {"\x80", "\xff", less}, {"\xc3", "\xc3\xa9", less}, {"\xc3\xa9", "\xc3\xaa", less}, {"\xef\xbf\xbd", "\xff", less}, {"\xfe", "\xfe", equal}, {"\xfe", "\xff", less}, {"9", "\xb9", less}, {"\xf0\x90\x80\x80", "\xef\xbf\xbf", greater}, {"\xd9\xa5", "5", greater},
		{strings.Repeat("a", 400), strings.Repeat("a", 399) + "b", less}, {strings.Repeat("a", 400), strings.Repeat("a", 399), greater}, {strings.Repeat("1", 400), strings.Repeat("1", 399) + "2", less}, {strings.Repeat("a", 100000) + "b", strings.Repeat("a", 100000) + "c", less},
	} {
		checkTextOrder(t, c.s, c.r, c.want)
	}
	for _, c := range []struct {
		n    int
		s    string
		want int
	}{
		{10, "9a", less}, {9, "9a", less}, {9, "10a", greater}, {1, "1x", less}, {2, "1x", greater}, {-1, "-1x", less}, {-1, "", greater}, {0, "", greater}, {0, "a", less}, {0, " ", greater}, {1, "1 ", less}, {1, " 1", greater}, {1, "1.0", less}, {1, "+1", greater}, {-5, "-", greater},
		{1000000000, "1000000001", less}, {1000000000, "00000000001", greater}, {1, "00000000001", greater}, {impl.MaxInt + 1, "1000000001", equal}, {5, "\x80", less}, {5, "\xff", less}, {1000000000, "99999999999", less},
	} {
		checkOrder(t, impl.IntValue(c.n), impl.TextValue(c.s), c.want)
	}
}

func TestEveryByteIsCompared(t *testing.T) {
	for c := range 256 {
		for d := range 256 {
			s, r := string([]byte{byte(c)}), string([]byte{byte(d)})
			checkTextOrder(t, "x"+s, "x"+r, orderOf(c < d, c > d))
			checkTextOrder(t, s+"x", r+"x", orderOf(c < d, c > d))
			checkTextOrder(t, s, r, orderOf(c < d, c > d))
		}
	}
}

// TestArraysOfDifferentLengths has arrays of which neither the keys nor the values are looked at.
func TestArraysOfDifferentLengths(t *testing.T) {
	object := number(impl.KindObject, 3)
	byLength := [][]impl.Value{
		{impl.ArrayValue(), array(100), {Kind: impl.KindArray, Items: []impl.Entry{}}, {Kind: impl.KindArray, Num: 5, Str: "x"}},
		{list(impl.IntValue(9)), list(object), array(0, entry(strKey("a"), object)), nested(50, impl.TextValue("x"))},
		{list(nulls(2)...), list(impl.IntValue(-9), object), array(0, entry(strKey("b"), object), entry(intKey(-4), object)), doubled(50, object)},
		{list(nulls(3)...), array(9, entry(strKey("a"), object), entry(strKey("a"), object), entry(strKey("a"), object))},
		{list(nulls(199)...)},
		{list(nulls(100000)...)},
	}
	for i, these := range byLength {
		for j, those := range byLength {
			for _, a := range these {
				for _, b := range those {
					if i != j {
						checkCompared(t, a, b, orderOf(i < j, i > j))
					}
				}
			}
		}
	}
}

func TestKeysInAnotherOrder(t *testing.T) {
	at := func(k impl.Key, n int) impl.Entry { return entry(k, impl.IntValue(n)) }
	a, b, zero, one := strKey("a"), strKey("b"), intKey(0), intKey(1)
	checkOrder(t, array(0, at(a, 1), at(b, 2)), array(0, at(b, 2), at(a, 1)), equal)
	checkOrder(t, array(2, at(zero, 1), at(one, 2)), array(2, at(one, 2), at(zero, 1)), equal)
	checkCompared(t, array(2, at(one, 1), at(zero, 2)), list(intValues(1, 2)...), less)
	checkCompared(t, list(intValues(1, 2)...), array(2, at(one, 1), at(zero, 2)), less)
	checkOrder(t, array(1, at(a, 1), at(zero, 2), at(b, 3)), array(1, at(b, 3), at(a, 1), at(zero, 2)), equal)
	// The items of the first array give the order in which values are compared.
	checkCompared(t, array(0, at(a, 1), at(b, 2)), array(0, at(b, 1), at(a, 2)), less)
	checkCompared(t, array(0, at(b, 1), at(a, 2)), array(0, at(a, 1), at(b, 2)), less)
	checkCompared(t, array(0, at(b, 2), at(a, 1)), array(0, at(a, 2), at(b, 1)), greater)
	checkCompared(t, array(0, at(a, 2), at(b, 1)), array(0, at(b, 2), at(a, 1)), greater)
	// Next does not count.
	checkOrder(t, array(2, at(zero, 1)), array(900, at(zero, 1)), equal)
}

func TestKeysThatTheOtherArrayLacks(t *testing.T) {
	at := func(k impl.Key, n int) impl.Entry { return entry(k, impl.IntValue(n)) }
	a, b, c := strKey("a"), strKey("b"), strKey("c")
	checkOrder(t, array(0, at(a, 1)), array(0, at(b, 1)), none)
	checkOrder(t, array(0, at(a, 1)), array(1, at(intKey(0), 1)), none)
	checkOrder(t, array(0, at(a, 1), at(b, 1)), array(0, at(a, 1), at(c, 1)), none)
	checkOrder(t, array(0, at(b, 1), at(a, 1)), array(0, at(c, 1), at(a, 1)), none)
	// What comes first, a difference or a key that is missing, counts.
	checkOrder(t, array(0, at(a, 1), at(b, 1)), array(0, at(a, 2), at(c, 1)), less)
	checkCompared(t, array(0, at(b, 1), at(a, 1)), array(0, at(a, 2), at(c, 1)), none)
	checkCompared(t, array(0, at(a, 2), at(c, 1)), array(0, at(b, 1), at(a, 1)), greater)
	// Keys are compared as a whole.
	keys := lookAlikes()
	for i, k := range keys {
		for j, l := range keys {
			want := none
			if i == j {
				want = equal
			}
			checkCompared(t, array(9, at(k, 1)), array(9, at(l, 1)), want)
			checkCompared(t, array(9, at(a, 1), at(k, 1)), array(9, at(l, 1), at(a, 1)), modelCompare(array(9, at(a, 1), at(k, 1)), array(9, at(l, 1), at(a, 1))))
		}
	}
}

// TestRepeatedKeysAreCompared has arrays that are not valid: the first item of the second array that has the key counts.
func TestRepeatedKeysAreCompared(t *testing.T) {
	at := func(k impl.Key, n int) impl.Entry { return entry(k, impl.IntValue(n)) }
	a, b := strKey("a"), strKey("b")
	checkCompared(t, array(0, at(a, 1), at(a, 1)), array(0, at(a, 1), at(a, 2)), equal)
	checkCompared(t, array(0, at(a, 1), at(a, 2)), array(0, at(a, 1), at(a, 2)), greater)
	checkCompared(t, array(0, at(a, 2), at(a, 1)), array(0, at(a, 2), at(a, 1)), less)
	checkCompared(t, array(0, at(a, 1), at(a, 1)), array(0, at(a, 1), at(b, 1)), equal)
	checkCompared(t, array(0, at(a, 1), at(b, 1)), array(0, at(a, 1), at(a, 1)), none)
	checkCompared(t, array(0, at(b, 1), at(a, 2)), array(0, at(a, 2), at(b, 1)), equal)
	checkCompared(t, array(0, at(b, 1), at(a, 2), at(a, 3)), array(0, at(a, 3), at(a, 2), at(b, 1)), less)
	checkCompared(t, array(0, at(b, 1), at(a, 3), at(b, 2)), array(0, at(a, 3), at(b, 1), at(b, 2)), greater)
	// So they need not even be equal to themselves.
	v, w := array(0, at(a, 1), at(a, 2)), array(0, at(a, 2), at(b, 1), at(a, 1))
	for depth := range 3 {
		checkCompared(t, nested(depth, v), nested(depth, v), greater)
		checkCompared(t, nested(depth, w), nested(depth, w), less)
		checkCompared(t, list(nested(depth, w), v), list(nested(depth, w), v), less)
	}
}

func TestValuesOfArraysAreCompared(t *testing.T) {
	one, two, x := impl.IntValue(1), impl.IntValue(2), impl.TextValue("x")
	object, other := number(impl.KindObject, 1), number(impl.KindObject, 2)
	for _, c := range []struct {
		a, b impl.Value
		want int
	}{
		{list(one), list(two), less},
		{list(one), list(impl.TextValue("01")), equal},
		{list(impl.NullValue()), list(impl.TextValue("")), equal},
		{list(impl.NullValue()), list(impl.TextValue("0")), less},
		{list(impl.BoolValue(true)), list(x), equal},
		{list(impl.BoolValue(false)), list(impl.ArrayValue()), equal},
		// The first values differ.
		{list(one, two), list(two, one), less},
		{list(one, two, two), list(one, two, one), greater},
		{list(one, object, two), list(two, other, one), less},
		// The values that cannot be compared come first.
		{list(object, one), list(other, two), none},
		{list(one, object, one), list(one, other, two), none},
		{list(one, one, object), list(one, one, x), none},
		{list(object, one), list(object, two), less},
		{list(object, object), list(object, object), equal},
		{list(object), list(number(impl.KindGen, 1)), none},
		// One of the values is an array.
		{list(one, impl.ArrayValue()), list(one, two), greater},
		{list(one, impl.ArrayValue()), list(one, object), greater},
		{list(impl.ArrayValue(), one), list(list(one), one), less},
		{list(list(one), one), list(list(one), two), less},
		{list(list(one, two), two), list(list(one, two), one), greater},
		{list(list(two), one), list(list(one), two), greater},
		{list(list(object), one), list(list(other), two), none},
		{list(list(list()), one), list(list(list(one)), one), less},
		{list(list(one), list(two)), list(list(one), array(0, entry(strKey("a"), two))), none},
		{list(list(list(one, two), x), two), list(list(list(one, two), x), one), greater},
		{list(list(list(one, two), list(x)), two), list(list(list(one, two), list(impl.TextValue("y"))), one), less},
	} {
		for depth := range 4 {
			checkOrder(t, nested(depth, c.a), nested(depth, c.b), c.want)
			checkOrder(t, list(list(one), nested(depth, c.a), one), list(list(one), nested(depth, c.b), two), orderOr(c.want, less))
			checkOrder(t, list(two, nested(depth, c.a)), list(one, nested(depth, c.b)), greater)
		}
	}
}

// orderOr is first unless that is equal.
func orderOr(first, second int) int {
	if first == equal {
		return second
	}
	return first
}

func TestArraysAndValuesThatAreNone(t *testing.T) {
	others := append(intValues(0, 1, -1, impl.MaxInt, math.MinInt), textValues("", "0", "1", "a", "array", "\xff")...)
	others = append(others, unlikeKinds()...)
	arrays := []impl.Value{impl.ArrayValue(), array(5), list(impl.NullValue()), list(impl.IntValue(1), impl.TextValue("a")), nested(20, impl.IntValue(1)), {Kind: impl.KindArray, Num: 1, Str: "a"}}
	for _, a := range arrays {
		for _, v := range others {
			checkOrder(t, a, v, greater)
			checkOrder(t, list(a), list(v), greater)
		}
	}
}

// TestOtherKindsAreCompared has values that are equal to those of the same kind and number alone, and cannot be compared with integers and texts.
func TestOtherKindsAreCompared(t *testing.T) {
	values := unlikeKinds()
	for i, a := range values {
		for j, b := range values {
			want := none
			if i == j {
				want = equal
			}
			checkCompared(t, a, b, want)
			// The fields that they do not have do not count.
			a.Str, a.Next, a.Items = "x", 3, list(impl.IntValue(1)).Items
			b.Str, b.Next, b.Items = "y", 4, list(impl.IntValue(2), impl.NullValue()).Items
			checkCompared(t, a, b, want)
		}
		for _, v := range append(intValues(0, 1, 7, a.Kind), textValues("", "0", "1", "7", "a")...) {
			checkOrder(t, a, v, none)
		}
		for _, n := range []int{-1, 2, 8, 1<<32 + 7, math.MaxInt, math.MinInt} {
			checkOrder(t, a, number(a.Kind, n), none)
			checkOrder(t, number(a.Kind, n), number(a.Kind, n), equal)
		}
	}
}

// TestEveryPairOfValues compares all values with each other, as they are and within arrays.
func TestEveryPairOfValues(t *testing.T) {
	values := allValues()
	seen := map[int]int{}
	for _, a := range values {
		for _, b := range values {
			want := modelCompare(a, b)
			seen[want]++
			checkCompared(t, a, b, want)
			checkCompared(t, list(impl.IntValue(1), a), array(2, entry(intKey(1), b), entry(intKey(0), impl.TextValue("01"))), want)
		}
		if t.Failed() {
			return
		}
	}
	if len(seen) != 4 {
		t.Errorf("the orders are %v", seen)
	}
}

// TestComparisonsGoByTheKind has values with fields that their kinds do not have.
func TestComparisonsGoByTheKind(t *testing.T) {
	var values []impl.Value
	for kind := -1; kind <= 9; kind++ {
		for _, n := range []int{0, 1, -3} {
			for _, s := range []string{"", "0", "1", "x"} {
				for _, items := range [][]impl.Entry{nil, list(impl.NullValue()).Items, list(impl.IntValue(5), impl.TextValue("6")).Items} {
					values = append(values, impl.Value{Kind: kind, Num: n, Str: s, Next: len(items) - n, Items: items})
				}
			}
		}
	}
	for _, a := range values {
		for _, b := range values {
			checkCompared(t, a, b, modelCompare(a, b))
		}
		if t.Failed() {
			return
		}
	}
}

// checkScalarOrder is the promise for two scalars: they are ordered, the other way round as well.
func checkScalarOrder(t *testing.T, a, b impl.Value) {
	t.Helper()
	order := impl.CompareValues(a, b)
	if order != impl.OrderLess && order != impl.OrderEqual && order != impl.OrderGreater {
		t.Errorf("CompareValues(%s, %s) = %d", brief(a), brief(b), order)
	}
	checkOrder(t, a, b, order)
}

func TestScalarsAreOrdered(t *testing.T) {
	for _, a := range scalars() {
		for _, b := range scalars() {
			checkScalarOrder(t, a, b)
		}
	}
	var short []impl.Value
	for _, first := range []string{"", "-", "0", "1", "9", "a", "\xff"} {
		for _, second := range []string{"", "-", "0", "1", "9", "a", "\xff"} {
			for _, third := range []string{"", "0", "2", " "} {
				short = append(short, impl.TextValue(first+second+third))
			}
		}
	}
	for _, a := range short {
		for _, b := range append(short, intValues(0, 1, -1, 2, 9, 10, 19, 90, 100, 102, -10)...) {
			checkScalarOrder(t, a, b)
			checkCompared(t, a, b, modelCompare(a, b))
		}
	}
	random := rand.New(rand.NewSource(9))
	for range 100000 {
		a, b := randomScalar(random), randomScalar(random)
		checkScalarOrder(t, a, b)
		checkCompared(t, a, b, modelCompare(a, b))
		if t.Failed() {
			return
		}
	}
}

func randomScalar(random *rand.Rand) impl.Value {
	switch n := random.Intn(2000) - 1000; random.Intn(7) {
	case 0:
		return impl.NullValue()
	case 1:
		return impl.BoolValue(n > 0)
	case 2:
		return impl.IntValue(n % 12)
	case 3:
		return impl.IntValue(n * 1000000)
	case 4:
		return impl.TextValue(fmt.Sprintf("%0*d", random.Intn(12), n%12))
	case 5:
		return impl.TextValue(fmt.Sprint(n%12) + []string{"", " ", "x", "0", "\xff"}[random.Intn(5)])
	}
	s := make([]byte, random.Intn(4))
	for i := range s {
		s[i] = "019-a \x80\xff"[random.Intn(8)]
	}
	return impl.TextValue(string(s))
}

// TestIdenticalValuesAreEqual has no array with a key twice: its second item would be compared with the first one.
func TestIdenticalValuesAreEqual(t *testing.T) {
	valid := 0
	for _, v := range allValues() {
		if !impl.IsValue(v) {
			continue
		}
		valid++
		checkCompared(t, v, v, equal)
		checkCompared(t, list(v, v), list(v, v), equal)
	}
	if valid < 200 {
		t.Errorf("%d values are valid", valid)
	}
	pairs := 0
	for _, a := range allValues() {
		for _, b := range allValues() {
			if impl.Identical(a, b) {
				pairs++
				checkCompared(t, a, b, equal)
			}
		}
	}
	if pairs < len(allValues()) {
		t.Errorf("%d pairs are identical", pairs)
	}
	for depth := range 199 {
		checkCompared(t, nested(depth, impl.TextValue("x")), nested(depth, impl.TextValue("x")), equal)
	}
}

func TestSortingShortLists(t *testing.T) {
	if got := impl.SortValues(nil); len(got) != 0 {
		t.Errorf("SortValues(nil) = %s", briefList(got))
	}
	checkSorted(t, []impl.Value{}, nil)
	checkIsOrdered(t, nil, true)
	checkIsOrdered(t, []impl.Value{}, true)
	for _, v := range allValues() {
		checkSorted(t, []impl.Value{v}, []impl.Value{v})
		checkIsOrdered(t, []impl.Value{v}, true)
	}
	checkIsOrdered(t, intValues(1, 2), true)
	checkIsOrdered(t, intValues(1, 1), true)
	checkIsOrdered(t, intValues(2, 1), false)
	checkSorted(t, intValues(2, 1), intValues(1, 2))
	checkSorted(t, intValues(1, 2), intValues(1, 2))
}

func TestSortingIntegers(t *testing.T) {
	for _, c := range []struct {
		l, want []int
	}{
		{[]int{3, 1, 2}, []int{1, 2, 3}},
		{[]int{1, 2, 3, 4, 5}, []int{1, 2, 3, 4, 5}},
		{[]int{5, 4, 3, 2, 1}, []int{1, 2, 3, 4, 5}},
		{[]int{7, 7, 7}, []int{7, 7, 7}},
		{[]int{2, 1, 2, 1, 2}, []int{1, 1, 2, 2, 2}},
		{[]int{10, 9, 100, -1, -10, 0}, []int{-10, -1, 0, 9, 10, 100}},
		{[]int{impl.MaxInt, -impl.MaxInt, 0}, []int{-impl.MaxInt, 0, impl.MaxInt}},
		{[]int{math.MaxInt, math.MinInt, -1, 1}, []int{math.MinInt, -1, 1, math.MaxInt}},
	} {
		checkSorted(t, intValues(c.l...), intValues(c.want...))
		checkIsOrdered(t, intValues(c.l...), slices.IsSorted(c.l))
		checkIsOrdered(t, intValues(c.want...), true)
	}
}

// TestSortedIntegersAreOrdered has random lists, some with few different numbers.
func TestSortedIntegersAreOrdered(t *testing.T) {
	random := rand.New(rand.NewSource(99))
	for size := range 120 {
		for _, most := range []int{3, 50, impl.MaxInt} {
			numbers := make([]int, size)
			for i := range numbers {
				numbers[i] = random.Intn(2*most+1) - most
			}
			l := intValues(numbers...)
			checkIsOrdered(t, l, slices.IsSorted(numbers))
			sorted := impl.SortValues(l)
			checkIsOrdered(t, sorted, true)
			slices.Sort(numbers)
			checkSorted(t, l, intValues(numbers...))
			checkSorted(t, sorted, intValues(numbers...))
			slices.Reverse(l)
			checkSorted(t, l, intValues(numbers...))
		}
	}
}

// TestEqualValuesKeepTheirOrder has values that are equal, but not identical.
func TestEqualValuesKeepTheirOrder(t *testing.T) {
	ones := append(textValues("1", "01", "001", "0000000001"), impl.IntValue(1))
	zeros := append(textValues("0", "-0", "00"), impl.IntValue(0))
	arrays := []impl.Value{list(ones[0]), list(ones[4]), array(9, list(ones[1]).Items...)}
	for range 5 {
		checkSorted(t, ones, ones)
		checkIsOrdered(t, ones, true)
		checkSorted(t, slices.Concat(ones, zeros), slices.Concat(zeros, ones))
		checkSorted(t, slices.Concat(arrays, ones, zeros), slices.Concat(zeros, ones, arrays))
		checkIsOrdered(t, slices.Concat(zeros, ones, arrays), true)
		checkIsOrdered(t, slices.Concat(zeros, arrays, ones), false)
		mixed := []impl.Value{ones[0], zeros[0], ones[1], zeros[1], ones[2], zeros[2], ones[3], zeros[3], ones[4]}
		checkSorted(t, mixed, slices.Concat(zeros, ones))
		ones = append(ones[1:], ones[0])
		zeros = append(zeros[1:], zeros[0])
		arrays = append(arrays[1:], arrays[0])
	}
	// They differ in what is not compared alone.
	l := []impl.Value{array(7, list(ones[0]).Items...), array(3, list(ones[0]).Items...), array(5, list(ones[0]).Items...)}
	checkSorted(t, l, l)
}

// TestSortingWhatCannotBeCompared has values at which the search for the place of another one stops.
func TestSortingWhatCannotBeCompared(t *testing.T) {
	one, two, three, object, other := impl.IntValue(1), impl.IntValue(2), impl.IntValue(3), number(impl.KindObject, 1), number(impl.KindObject, 2)
	for _, c := range []struct {
		l, want []impl.Value
	}{
		{[]impl.Value{object, other}, []impl.Value{object, other}},
		{[]impl.Value{other, object}, []impl.Value{other, object}},
		{[]impl.Value{two, object, one}, []impl.Value{two, object, one}},
		{[]impl.Value{object, two, one}, []impl.Value{object, one, two}},
		{[]impl.Value{three, object, two, one}, []impl.Value{three, object, one, two}},
		{[]impl.Value{three, two, object, two, one}, []impl.Value{two, three, object, one, two}},
		{[]impl.Value{list(one), one}, []impl.Value{one, list(one)}},
		{[]impl.Value{list(one), object, one}, []impl.Value{object, one, list(one)}},
		{[]impl.Value{list(one), array(0, entry(strKey("a"), one)), impl.ArrayValue()}, []impl.Value{impl.ArrayValue(), list(one), array(0, entry(strKey("a"), one))}},
		{[]impl.Value{list(two), array(0, entry(strKey("a"), one)), list(one)}, []impl.Value{list(two), array(0, entry(strKey("a"), one)), list(one)}},
	} {
		checkSorted(t, c.l, c.want)
		checkListAsModel(t, c.l)
	}
	checkIsOrdered(t, []impl.Value{two, object, one}, true)
	checkIsOrdered(t, []impl.Value{object, two, one}, false)
}

// TestSortingAlongCircles has values whose orders form a circle, so that where they stood first counts.
func TestSortingAlongCircles(t *testing.T) {
	two, ten, text := impl.IntValue(2), impl.IntValue(10), impl.TextValue("1x")
	checkOrder(t, two, ten, less)
	checkOrder(t, ten, text, less)
	checkOrder(t, text, two, less)
	for _, c := range []struct {
		l, want []impl.Value
	}{
		{[]impl.Value{two, ten, text}, []impl.Value{two, ten, text}},
		{[]impl.Value{ten, two, text}, []impl.Value{two, ten, text}},
		// The first value is greater, but the search from the end stops before it gets there.
		{[]impl.Value{ten, text, two}, []impl.Value{ten, text, two}},
		{[]impl.Value{text, ten, two}, []impl.Value{ten, text, two}},
		{[]impl.Value{text, two, ten}, []impl.Value{text, two, ten}},
		{[]impl.Value{two, text, ten}, []impl.Value{text, two, ten}},
	} {
		checkSorted(t, c.l, c.want)
		checkIsOrdered(t, c.want, true)
	}
	checkIsOrdered(t, []impl.Value{ten, two, text}, false)
	checkIsOrdered(t, []impl.Value{two, text, ten}, false)
}

// TestSortingComparesTheEarlierValueFirst has arrays whose orders are not opposite, as their keys are not in the same order.
func TestSortingComparesTheEarlierValueFirst(t *testing.T) {
	a, b := strKey("a"), strKey("b")
	one, two := impl.IntValue(1), impl.IntValue(2)
	first, second := array(0, entry(a, one), entry(b, two)), array(0, entry(b, one), entry(a, two))
	checkCompared(t, first, second, less)
	checkCompared(t, second, first, less)
	third, fourth := array(0, entry(a, two), entry(b, one)), array(0, entry(b, two), entry(a, one))
	checkCompared(t, third, fourth, greater)
	checkCompared(t, fourth, third, greater)
	for range 2 {
		checkSorted(t, []impl.Value{first, second}, []impl.Value{first, second})
		checkIsOrdered(t, []impl.Value{first, second}, true)
		checkSorted(t, []impl.Value{third, fourth}, []impl.Value{fourth, third})
		checkIsOrdered(t, []impl.Value{third, fourth}, false)
		first, second, third, fourth = second, first, fourth, third
	}
}

func TestSortingNullAndBooleans(t *testing.T) {
	null, no, yes := impl.NullValue(), impl.BoolValue(false), impl.BoolValue(true)
	checkSorted(t, []impl.Value{yes, no, null}, []impl.Value{no, null, yes})
	checkSorted(t, []impl.Value{yes, null, no}, []impl.Value{null, no, yes})
	checkSorted(t, []impl.Value{impl.TextValue("0"), null, no}, []impl.Value{null, impl.TextValue("0"), no})
	checkSorted(t, []impl.Value{list(null), yes, impl.ArrayValue(), null}, []impl.Value{impl.ArrayValue(), null, list(null), yes})
}

// randomLists has lists of up to 59 values, each out of some that are often equal, or cannot be compared.
func randomLists() [][]impl.Value {
	random := rand.New(rand.NewSource(7))
	pools := [][]impl.Value{scalars(), allValues(), someArrays(), slices.Concat(someArrays(), scalars()[:30], unlikeKinds()[:9])}
	var l [][]impl.Value
	for _, pool := range pools {
		for size := range 60 {
			for range 12 {
				values := make([]impl.Value, size)
				for i := range values {
					values[i] = pool[random.Intn(len(pool))]
				}
				l = append(l, values)
			}
		}
	}
	return l
}

// TestEveryShortList goes through all lists of three of some values.
func TestEveryShortList(t *testing.T) {
	values := slices.Concat(intValues(1, 9, 10), textValues("", "1", "01", "9a", "x", "\xff"), someArrays()[:4], unlikeKinds()[:3], []impl.Value{impl.NullValue(), impl.BoolValue(false), impl.BoolValue(true)})
	for _, a := range values {
		for _, b := range values {
			for _, c := range values {
				checkInsertion(t, []impl.Value{a, b, c})
			}
		}
		if t.Failed() {
			return
		}
	}
}

// checkInsertion sorts by the search from the end to the front.
func checkInsertion(t *testing.T, l []impl.Value) {
	t.Helper()
	var sorted []impl.Value
	for _, v := range l {
		at := len(sorted)
		for at > 0 && modelCompare(sorted[at-1], v) == greater {
			at--
		}
		sorted = slices.Insert(sorted, at, v)
	}
	checkSorted(t, l, sorted)
	checkListAsModel(t, l)
}

func TestRandomLists(t *testing.T) {
	for _, l := range randomLists() {
		checkInsertion(t, l)
		if t.Failed() {
			return
		}
	}
}

// occurrences counts how often v is one of the values, all fields being the same.
func occurrences(l []impl.Value, v impl.Value) int {
	count := 0
	for _, x := range l {
		if isSame(x, v) {
			count++
		}
	}
	return count
}

func TestSortingLosesNothing(t *testing.T) {
	for _, l := range randomLists() {
		sorted := impl.SortValues(l)
		if len(sorted) != len(l) {
			t.Fatalf("%d of %d values are left", len(sorted), len(l))
		}
		for _, v := range l {
			if had, has := occurrences(l, v), occurrences(sorted, v); had != has {
				t.Fatalf("%s is there %d times, and was there %d times", brief(v), has, had)
			}
		}
	}
	// Fields that a kind does not have are kept too.
	for _, v := range otherValues() {
		checkSorted(t, []impl.Value{impl.IntValue(1), v}, modelSort([]impl.Value{impl.IntValue(1), v}))
		checkSorted(t, []impl.Value{v, v}, []impl.Value{v, v})
	}
}

// longLists has two long lists, in falling and in rising order.
func longLists() ([]impl.Value, []impl.Value) {
	const count = 1500
	var falling, rising []impl.Value
	for i := range count {
		falling = append(falling, impl.IntValue(count-1-i))
		rising = append(rising, impl.IntValue(i))
	}
	return falling, rising
}

func TestSortingLongLists(t *testing.T) {
	falling, rising := longLists()
	checkSorted(t, falling, rising)
	checkSorted(t, rising, rising)
	checkIsOrdered(t, falling, false)
	checkIsOrdered(t, rising, true)
	checkIsOrdered(t, append(rising, impl.IntValue(5)), false)
	many := slices.Repeat([]impl.Value{impl.TextValue("1"), impl.IntValue(1)}, 50000)
	checkSorted(t, many, many)
	checkIsOrdered(t, many, true)
}

// compareAll is the results of all functions of this chapter.
func compareAll(a, b impl.Value) []any {
	return []any{
		impl.CompareValues(a, b), impl.CompareValues(b, a), impl.LooseEqual(a, b), impl.LooseEqual(b, a),
		impl.IsOrdered([]impl.Value{a, b}), impl.IsOrdered([]impl.Value{b, a}), impl.SortValues([]impl.Value{a, b, a}), impl.SortValues([]impl.Value{b, a}),
	}
}

func TestSortedListsShareNoMemory(t *testing.T) {
	for _, v := range sharingArguments() {
		for _, w := range append(sharingArguments(), v) {
			l := append(make([]impl.Value, 0, 9), v, w, v, impl.TextValue(strings.Clone("1")))
			given, got := newMemory(), newMemory()
			for _, x := range l {
				given.addValue(x)
			}
			sorted := impl.SortValues(l)
			seen := 0
			for _, x := range sorted {
				seen += got.addValue(x)
			}
			if got.meets(given) || &sorted[0] == &l[0] {
				t.Fatalf("SortValues(%s) shares memory with its argument", briefList(l))
			}
			if seen != len(got.items) {
				t.Fatalf("SortValues(%s) has two lists in the same memory", briefList(l))
			}
		}
	}
}

func TestComparisonsLeaveTheirArguments(t *testing.T) {
	for i, v := range sharingArguments() {
		for j, w := range sharingArguments() {
			before, other := withSpare(v), withSpare(w)
			compareAll(v, w)
			if !reflect.DeepEqual(withSpare(v), before) || !reflect.DeepEqual(withSpare(w), other) {
				t.Fatalf("the values %d and %d have changed", i, j)
			}
		}
	}
	spare := impl.TextValue("spare")
	l := append(intValues(5, 3, 4, 1), list(impl.IntValue(2)), spare, spare)[:5]
	before := slices.Clone(l[:7])
	sorted := impl.SortValues(l)
	impl.IsOrdered(l)
	for i := range sorted {
		spoil(sorted[i])
		sorted[i] = spare
	}
	_ = append(sorted, spare, spare)
	if !slices.EqualFunc(l[:7], before, isSame) {
		t.Errorf("the list has become %s", briefList(l[:7]))
	}
}

func TestChangedArgumentsDoNotChangeSortedLists(t *testing.T) {
	for i := range sharingArguments() {
		for j := range sharingArguments() {
			l := []impl.Value{sharingArguments()[i], sharingArguments()[j], impl.TextValue("1")}
			sorted := impl.SortValues(l)
			for at := range l {
				spoil(l[at])
				l[at] = impl.IntValue(-99)
			}
			if want := modelSort([]impl.Value{sharingArguments()[i], sharingArguments()[j], impl.TextValue("1")}); !slices.EqualFunc(sorted, want, isSame) {
				t.Fatalf("the sorted list of the values %d and %d has become %s", i, j, briefList(sorted))
			}
		}
	}
}

// TestArraysAreComparedDeeperThanCalls would run out of stack if a function called itself for each array.
func TestArraysAreComparedDeeperThanCalls(t *testing.T) {
	defer debug.SetMaxStack(debug.SetMaxStack(1 << 20))
	const depth = 50000
	deep := func(v impl.Value) impl.Value { return nested(depth, v) }
	one, two := deep(impl.IntValue(1)), deep(impl.IntValue(2))
	checkCompared(t, one, one, equal)
	checkCompared(t, one, deep(impl.TextValue("01")), equal)
	checkOrder(t, one, two, less)
	checkOrder(t, one, list(two), less)
	checkOrder(t, deep(number(6, 1)), deep(number(6, 2)), none)
	checkOrder(t, list(one, impl.IntValue(2)), list(one, impl.IntValue(1)), greater)
	sorted := impl.SortValues([]impl.Value{two, one})
	checkIdentical(t, sorted[0], one, true)
	checkIdentical(t, sorted[1], two, true)
	checkIsOrdered(t, []impl.Value{one, two, one}, false)
}

// keyed is an array of all of these keys, each with its number as value.
func keyed(keys []int) impl.Value {
	v := array(len(keys))
	for _, n := range keys {
		v.Items = append(v.Items, entry(intKey(n), impl.IntValue(n)))
	}
	return v
}

// TestLongArraysAreCompared would take longer than anybody waits if each key were looked for from the beginning.
func TestLongArraysAreCompared(t *testing.T) {
	const count = 100000
	rising := make([]int, count)
	for i := range rising {
		rising[i] = i
	}
	falling := slices.Clone(rising)
	slices.Reverse(falling)
	shuffled := slices.Clone(rising)
	rand.New(rand.NewSource(3)).Shuffle(count, func(i, j int) { shuffled[i], shuffled[j] = shuffled[j], shuffled[i] })
	all := []impl.Value{keyed(rising), keyed(falling), keyed(shuffled)}
	for _, a := range all {
		for _, b := range all {
			checkCompared(t, a, b, equal)
		}
		changed := copied(a)
		changed.Items[count-1].Val = impl.IntValue(-1)
		checkOrder(t, a, changed, greater)
		changed.Items[count-1].Key = intKey(count)
		checkOrder(t, a, changed, none)
		checkOrder(t, a, array(count, changed.Items[1:]...), greater)
	}
}

// TestLongArraysThatDifferAtTheBeginning would take longer than anybody waits if all keys were looked at before the first values are.
func TestLongArraysThatDifferAtTheBeginning(t *testing.T) {
	const count = 100000
	low, high := list(append(intValues(1), nulls(count)...)...), list(append(intValues(2), nulls(count)...)...)
	for range 20000 {
		checkOrder(t, low, high, less)
	}
}

// TestArraysThatShareItemsAreCompared has arrays that would take longer than anybody waits if their items were gone through one by one.
func TestArraysThatShareItemsAreCompared(t *testing.T) {
	one, two, object := impl.IntValue(1), impl.IntValue(2), number(impl.KindObject, 1)
	for _, depth := range []int{1, 2, 10, 64, 5000} {
		checkOrder(t, doubled(depth, one), doubled(depth, impl.TextValue("01")), equal)
		checkOrder(t, doubled(depth, one), doubled(depth, two), less)
		checkOrder(t, doubled(depth, object), doubled(depth, two), none)
		checkOrder(t, doubled(depth, impl.ArrayValue()), doubled(depth, list(one)), less)
		checkOrder(t, list(doubled(depth, one), two), list(doubled(depth, one), one), greater)
		checkOrder(t, list(doubled(depth, one), doubled(depth, two)), list(doubled(depth, one), doubled(depth, one)), greater)
	}
	// Only one of the two shares its items, or shares others.
	shared, unit := list(one), list(impl.TextValue("1"))
	checkOrder(t, list(shared, shared), list(unit, list(two)), less)
	checkOrder(t, list(shared, list(two)), list(unit, unit), greater)
	checkOrder(t, list(shared, list(two), shared), list(unit, list(two), list(two)), less)
	checkOrder(t, list(shared, unit, shared, unit), list(unit, shared, unit, list(two)), less)
	// The lists are in the same memory, but one is longer.
	long := list(one, one, two)
	other := list(one, one, one)
	checkOrder(t, list(array(2, long.Items[:2]...), long), list(array(2, other.Items[:2]...), other), greater)
	checkOrder(t, list(array(1, long.Items[:1]...), array(2, long.Items[:2]...), long), list(array(1, other.Items[:1]...), array(2, other.Items[:2]...), other), greater)
	checkOrder(t, list(array(2, long.Items[:2]...), array(2, long.Items[:2]...)), list(array(2, long.Items[:2]...), array(2, long.Items[1:]...)), none)
}

// TestArraysThatHoldThemselvesAreCompared has values that have no end: they are equal if no difference is found in them.
func TestArraysThatHoldThemselvesAreCompared(t *testing.T) {
	others := endlessValues()
	for i, v := range endlessValues() {
		checkCompared(t, v, v, equal)
		checkOrder(t, v, others[i], equal)
		checkOrder(t, list(v, v), list(others[i], v), equal)
		checkOrder(t, list(v, impl.IntValue(1)), list(others[i], impl.IntValue(2)), less)
		checkOrder(t, list(impl.IntValue(2), v), list(impl.IntValue(1), others[i]), greater)
		checkOrder(t, v, impl.IntValue(1), greater)
		checkOrder(t, v, impl.NullValue(), greater)
		checkOrder(t, v, impl.BoolValue(true), equal)
		checkOrder(t, v, number(impl.KindObject, 1), greater)
		for _, w := range endlessValues() {
			if order := impl.CompareValues(v, w); !impl.InRange(order, impl.OrderLess, impl.OrderNone) {
				t.Errorf("CompareValues(%d items, %d items) = %d", len(v.Items), len(w.Items), order)
			}
		}
	}
	// An array that holds itself, and one that is written out further, are equal.
	one := list(impl.NullValue())
	one.Items[0].Val = one
	checkOrder(t, one, list(list(one)), equal)
	checkOrder(t, one, list(list(list(impl.IntValue(1)))), greater)
	checkOrder(t, one, nested(50, list(impl.IntValue(1), impl.IntValue(1))), less)
}

func TestVastValuesAreSorted(t *testing.T) {
	before := vastValues()
	for i, v := range vastValues() {
		for _, l := range [][]impl.Value{{v}, {v, v}, {impl.IntValue(2), v, impl.IntValue(1)}, {v, impl.ArrayValue(), v}} {
			sorted := impl.SortValues(l)
			if len(sorted) != len(l) {
				t.Fatalf("%d of %d values are left", len(sorted), len(l))
			}
			impl.IsOrdered(l)
			for _, w := range sorted {
				clear(w.Items)
			}
		}
		checkIdentical(t, v, before[i], true)
	}
	vast := before[len(before)-3]
	sorted := impl.SortValues([]impl.Value{vast, impl.TextValue("x"), vast})
	checkIdentical(t, sorted[0], impl.TextValue("x"), true)
	checkIdentical(t, sorted[1], vast, true)
	checkIdentical(t, sorted[2], vast, true)
}

func TestComparisonsAreRepeatable(t *testing.T) {
	values := slices.Concat(sharingArguments(), someArrays(), scalars()[:20])
	for _, a := range values {
		for _, b := range values {
			first := compareAll(a, b)
			compareAll(list(b, a), list(a, b))
			if !reflect.DeepEqual(compareAll(a, b), first) {
				t.Fatalf("%s and %s are compared to something else the second time", brief(a), brief(b))
			}
		}
	}
}
