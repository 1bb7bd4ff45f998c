package tests

import (
	"fmt"
	"math"
	"math/rand"
	"reflect"
	"runtime/debug"
	"slices"
	"strconv"
	"strings"
	"testing"
	"unsafe"

	"loop.example/g03011/impl"
)

// Promise 6: arrays keep their items, their order and a free index.

func entry(k impl.Key, v impl.Value) impl.Entry {
	return impl.Entry{Key: k, Val: v}
}

// isSame compares all fields at any depth, Next too. Nil and empty lists are the same.
func isSame(a, b impl.Value) bool {
	if a.Kind != b.Kind || a.Num != b.Num || a.Str != b.Str || a.Next != b.Next || len(a.Items) != len(b.Items) {
		return false
	}
	for i := range a.Items {
		if a.Items[i].Key != b.Items[i].Key || !isSame(a.Items[i].Val, b.Items[i].Val) {
			return false
		}
	}
	return true
}

func checkSame(t *testing.T, what string, got, want impl.Value) {
	t.Helper()
	if !isSame(got, want) {
		t.Errorf("%s = %s; want %s", what, brief(got), brief(want))
	}
}

func briefKey(k impl.Key) string {
	return fmt.Sprintf("%.100s", fmt.Sprintf("%+v", k))
}

func checkTextKey(t *testing.T, s string, want impl.Key) {
	t.Helper()
	if got := impl.TextKey(s); got != want {
		t.Errorf("TextKey(%.80q) = %s; want %s", s, briefKey(got), briefKey(want))
	}
}

func checkKeyOf(t *testing.T, v impl.Value, want impl.Key, wantOK bool) {
	t.Helper()
	if got, ok := impl.KeyOf(v); got != want || ok != wantOK {
		t.Errorf("KeyOf(%s) = %s, %v; want %s, %v", brief(v), briefKey(got), ok, briefKey(want), wantOK)
	}
}

func checkFound(t *testing.T, v impl.Value, k impl.Key, at int) {
	t.Helper()
	if got := impl.FindKey(v, k); got != at {
		t.Errorf("FindKey(%s, %s) = %d; want %d", brief(v), briefKey(k), got, at)
	}
	want := impl.Value{}
	if at >= 0 {
		want = v.Items[at].Val
	}
	got, ok := impl.GetKey(v, k)
	if ok != (at >= 0) || !isSame(got, want) {
		t.Errorf("GetKey(%s, %s) = %s, %v; want %s, %v", brief(v), briefKey(k), brief(got), ok, brief(want), at >= 0)
	}
}

func checkSet(t *testing.T, v impl.Value, k impl.Key, x, want impl.Value, wantOK bool) {
	t.Helper()
	got, ok := impl.SetKey(v, k, x)
	checkSame(t, fmt.Sprintf("SetKey(%s, %s, %s)", brief(v), briefKey(k), brief(x)), got, want)
	if ok != wantOK {
		t.Errorf("SetKey(%s, %s, %s) reports %v", brief(v), briefKey(k), brief(x), ok)
	}
}

func checkAppended(t *testing.T, v, x, want impl.Value, wantOK bool) {
	t.Helper()
	got, ok := impl.AppendItem(v, x)
	checkSame(t, fmt.Sprintf("AppendItem(%s, %s)", brief(v), brief(x)), got, want)
	if ok != wantOK {
		t.Errorf("AppendItem(%s, %s) reports %v", brief(v), brief(x), ok)
	}
}

func checkDeleted(t *testing.T, v impl.Value, k impl.Key, want impl.Value) {
	t.Helper()
	checkSame(t, fmt.Sprintf("DeleteKey(%s, %s)", brief(v), briefKey(k)), impl.DeleteKey(v, k), want)
}

// checkParts checks KeysOf and ValuesOf.
func checkParts(t *testing.T, v impl.Value, items []impl.Entry) {
	t.Helper()
	keys, values := impl.KeysOf(v), impl.ValuesOf(v)
	if len(keys) != len(items) || len(values) != len(items) {
		t.Fatalf("%s has %d keys and %d values; want %d", brief(v), len(keys), len(values), len(items))
	}
	for i, e := range items {
		if keys[i] != e.Key {
			t.Errorf("KeysOf(%s) has %s at %d; want %s", brief(v), briefKey(keys[i]), i, briefKey(e.Key))
		}
		checkSame(t, fmt.Sprintf("ValuesOf(%s) at %d", brief(v), i), values[i], e.Val)
	}
}

func TestTextKeyOfIntegers(t *testing.T) {
	for _, n := range []int{0, 5, -5, 1, -1, 9, 10, 42, 100, 123456789, 999999999, 1000000000, -999999999, -1000000000} {
		checkTextKey(t, strconv.Itoa(n), intKey(n))
	}
	for n := -2000; n <= 2000; n++ {
		checkTextKey(t, strconv.Itoa(n), intKey(n))
	}
}

func TestTextKeyOfOtherTexts(t *testing.T) {
	for _, s := range []string{
		"", "a", "key", " ", "05", "00", "-0", "+0", "+5", "-05", "-", "+", "--5", "5 ", " 5", "5a", "5.0", "5e1", "0x5", "1_0", "5\x00", "\x00", "\xff", "\xd9\xa5",
		"1000000001", "-1000000001", "10000000000", "1000000000000", "9223372036854775807", "-9223372036854775808", "9223372036854775808", "18446744073709551621",
		strings.Repeat("a", 400), strings.Repeat("a", 401), strings.Repeat("1", 401), strings.Repeat("0", 10000), strings.Repeat("\xff", 100000),
	} {
		checkTextKey(t, s, strKey(s))
	}
}

// TestTextKeysAreKeys has texts of all that numbers are written with: the key of a text that is not too long is a key.
func TestTextKeysAreKeys(t *testing.T) {
	texts := []string{""}
	for range 5 {
		var longer []string
		for _, s := range texts {
			k := impl.TextKey(s)
			checkKey(t, k, true)
			if s != k.Str && s != strconv.Itoa(k.Num) {
				t.Errorf("TextKey(%q) = %+v", s, k)
			}
			if got, _ := impl.KeyOf(impl.TextValue(s)); got != k {
				t.Errorf("KeyOf(TextValue(%q)) = %+v; want %+v", s, got, k)
			}
			for _, c := range "0159-+ a" {
				longer = append(longer, s+string(c))
			}
		}
		texts = longer
	}
}

func TestKeyOf(t *testing.T) {
	checkKeyOf(t, impl.NullValue(), strKey(""), true)
	checkKeyOf(t, impl.BoolValue(false), intKey(0), true)
	checkKeyOf(t, impl.BoolValue(true), intKey(1), true)
	for _, n := range []int{0, 1, -1, 5, -5, impl.MaxInt, -impl.MaxInt, impl.MaxInt + 1, -impl.MaxInt - 1, 1 << 32, math.MaxInt, math.MinInt} {
		checkKeyOf(t, impl.IntValue(n), intKey(n), true)
		checkKeyOf(t, number(impl.KindBool, n), intKey(n), true)
	}
	checkKeyOf(t, impl.TextValue("5"), intKey(5), true)
	checkKeyOf(t, impl.TextValue("-5"), intKey(-5), true)
	for _, s := range []string{"", "a", "05", "-0", "+5", "1000000001", strings.Repeat("b", 401)} {
		checkKeyOf(t, impl.TextValue(s), strKey(s), true)
	}
	for _, v := range []impl.Value{impl.ArrayValue(), list(impl.IntValue(3))} {
		checkKeyOf(t, v, impl.Key{}, false)
	}
}

func TestKeyOfOtherKinds(t *testing.T) {
	for _, kind := range []int{4, 5, 6, 7, 8, 9, 10, 255, 1 << 32, 1<<32 + 1, 1<<32 + 3, -1, -2, -3, math.MaxInt, math.MinInt} {
		for _, n := range []int{0, 1, 7, -1} {
			checkKeyOf(t, number(kind, n), impl.Key{}, false)
			checkKeyOf(t, impl.Value{Kind: kind, Num: n, Str: "5", Next: 1, Items: list(impl.IntValue(1)).Items}, impl.Key{}, false)
		}
	}
}

// TestKeyOfGoesByTheKind has values with fields that their kinds do not have.
func TestKeyOfGoesByTheKind(t *testing.T) {
	all := impl.Value{Num: 7, Str: "8", Next: 9, Items: list(impl.IntValue(1)).Items}
	for kind, want := range []impl.Key{strKey(""), intKey(7), intKey(7), intKey(8)} {
		all.Kind = kind
		checkKeyOf(t, all, want, true)
	}
	all.Kind, all.Str = impl.KindText, "x"
	checkKeyOf(t, all, strKey("x"), true)
}

func TestKeyValue(t *testing.T) {
	for _, s := range []string{"", "a", "5", "-5", "05", "\x00\xff", strings.Repeat("a", 400), strings.Repeat("a", 401)} {
		checkBuilt(t, "KeyValue of a string key", impl.KeyValue(strKey(s)), 3, 0, s)
		checkBuilt(t, "KeyValue of a string key with a Num", impl.KeyValue(impl.Key{Text: true, Num: 6, Str: s}), 3, 0, s)
	}
	for _, n := range []int{0, 1, -1, impl.MaxInt, -impl.MaxInt, impl.MaxInt + 1, math.MaxInt, math.MinInt} {
		checkBuilt(t, "KeyValue of an integer key", impl.KeyValue(intKey(n)), 2, n, "")
		checkBuilt(t, "KeyValue of an integer key with a Str", impl.KeyValue(impl.Key{Num: n, Str: "a"}), 2, n, "")
	}
}

func TestKeysAreReadFromTheirValues(t *testing.T) {
	for _, k := range []impl.Key{intKey(0), intKey(7), intKey(-7), intKey(impl.MaxInt), intKey(-impl.MaxInt), strKey(""), strKey("a"), strKey("05"), strKey("1000000001"), strKey(strings.Repeat("z", 400))} {
		checkKey(t, k, true)
		checkKeyOf(t, impl.KeyValue(k), k, true)
	}
}

func TestFindKey(t *testing.T) {
	v := array(6, entry(intKey(5), impl.IntValue(50)), entry(strKey("a"), impl.TextValue("A")), entry(intKey(0), list(impl.IntValue(1))), entry(strKey(""), impl.NullValue()), entry(intKey(-3), impl.BoolValue(true)))
	for i, k := range []impl.Key{intKey(5), strKey("a"), intKey(0), strKey(""), intKey(-3)} {
		checkFound(t, v, k, i)
	}
	for _, k := range []impl.Key{intKey(1), intKey(3), intKey(6), intKey(-5), strKey("b"), strKey("A"), strKey("aa"), strKey("5"), strKey("0"), intKey(math.MaxInt)} {
		checkFound(t, v, k, -1)
	}
	for _, k := range []impl.Key{intKey(0), strKey(""), strKey("a"), intKey(-1)} {
		checkFound(t, impl.ArrayValue(), k, -1)
		checkFound(t, array(5, []impl.Entry{}...), k, -1)
	}
}

// lookAlikes has keys that differ in one field alone, most of them not keys at all.
func lookAlikes() []impl.Key {
	return []impl.Key{
		intKey(5), strKey("5"), {Num: 5, Str: "5"}, {Text: true, Num: 5, Str: "5"}, {Text: true, Num: 5}, {Num: 5, Str: "a"}, {Text: true, Num: 5, Str: "a"},
		strKey("a"), {Str: "a"}, {Text: true, Num: -1, Str: "a"}, intKey(0), strKey(""), strKey("0"), {Text: true, Num: 1}, {Str: "0"},
		intKey(impl.MaxInt + 1), intKey(-impl.MaxInt - 1), intKey(math.MinInt), strKey(strings.Repeat("a", 401)), strKey(strings.Repeat("a", 400)),
	}
}

func TestKeysAreComparedAsAWhole(t *testing.T) {
	keys := lookAlikes()
	all := impl.ArrayValue()
	for i, k := range keys {
		all.Items = append(all.Items, entry(k, impl.IntValue(i)))
	}
	for i, k := range keys {
		checkFound(t, all, k, i)
		without := array(0, slices.Delete(slices.Clone(all.Items), i, i+1)...)
		checkDeleted(t, all, k, without)
		checkFound(t, without, k, -1)
		checkDeleted(t, without, k, without)
		for j, l := range keys {
			at := -1
			if i == j {
				at = 0
			}
			checkFound(t, array(9, entry(k, impl.TextValue("x"))), l, at)
		}
	}
}

func TestSetKeyComparesKeysAsAWhole(t *testing.T) {
	for _, k := range lookAlikes() {
		v := array(9, entry(k, impl.IntValue(1)))
		for _, l := range lookAlikes() {
			want := v
			if modelIsKey(l) {
				want = modelSet(v, l, impl.IntValue(2))
			}
			checkSet(t, v, l, impl.IntValue(2), want, modelIsKey(l))
		}
	}
}

// otherValues has values that are no arrays, with fields that their kinds do not have.
func otherValues() []impl.Value {
	items := []impl.Entry{entry(intKey(0), impl.IntValue(1)), entry(strKey("a"), list(impl.TextValue("deep")))}
	values := []impl.Value{impl.NullValue(), impl.BoolValue(true), impl.IntValue(7), impl.TextValue("text")}
	for _, kind := range []int{0, 1, 2, 3, 5, 6, 7, 8, 9, -1, 1<<32 + 4, math.MaxInt, math.MinInt} {
		values = append(values, number(kind, 3), impl.Value{Kind: kind, Str: "s"}, impl.Value{Kind: kind, Next: 4}, impl.Value{Kind: kind, Items: items}, impl.Value{Kind: kind, Num: 2, Str: "t", Next: 2, Items: items})
	}
	return values
}

func TestValuesThatAreNoArrays(t *testing.T) {
	for _, v := range otherValues() {
		for _, k := range []impl.Key{intKey(0), strKey("a"), intKey(4), intKey(2), strKey("new"), strKey("5")} {
			checkFound(t, v, k, -1)
			checkSet(t, v, k, impl.IntValue(9), v, false)
			checkDeleted(t, v, k, v)
		}
		checkAppended(t, v, impl.IntValue(9), v, false)
		checkParts(t, v, nil)
	}
}

// TestFieldsThatArraysDoNotHave has arrays with a Num and a Str, and values of all kinds in them: they stay as they are.
func TestFieldsThatArraysDoNotHave(t *testing.T) {
	for _, inner := range otherValues() {
		v := impl.Value{Kind: impl.KindArray, Num: 3, Str: "extra", Next: 2, Items: []impl.Entry{entry(intKey(0), inner), entry(intKey(1), inner)}}
		checkFound(t, v, intKey(1), 1)
		checkParts(t, v, v.Items)
		checkSet(t, v, strKey("5"), inner, v, false)
		checkDeleted(t, v, intKey(2), v)
		want := v
		want.Items = v.Items[:1]
		checkDeleted(t, v, intKey(1), want)
		want.Next, want.Items = 3, []impl.Entry{v.Items[0], v.Items[1], entry(intKey(2), inner)}
		checkSet(t, v, intKey(2), inner, want, true)
		checkAppended(t, v, inner, want, true)
		checkSame(t, "ListOf", impl.ListOf([]impl.Value{inner, v}), list(inner, v))
	}
}

func TestRepeatedKeys(t *testing.T) {
	for _, k := range []impl.Key{intKey(5), intKey(-1), strKey("a"), strKey("")} {
		one, two, three, other := impl.IntValue(1), list(impl.IntValue(2)), impl.TextValue("3"), strKey("other")
		v := array(6, entry(other, three), entry(k, one), entry(k, two), entry(other, one), entry(k, three))
		checkFound(t, v, k, 1)
		checkFound(t, v, other, 0)
		checkSet(t, v, k, impl.IntValue(9), array(6, entry(other, three), entry(k, impl.IntValue(9)), entry(k, two), entry(other, one), entry(k, three)), true)
		checkDeleted(t, v, k, array(6, entry(other, three), entry(k, two), entry(other, one), entry(k, three)))
		checkDeleted(t, v, other, array(6, entry(k, one), entry(k, two), entry(other, one), entry(k, three)))
		checkParts(t, v, v.Items)
		once := impl.DeleteKey(v, k)
		checkFound(t, once, k, 1)
		twice := impl.DeleteKey(once, k)
		checkFound(t, twice, k, 2)
		checkFound(t, impl.DeleteKey(twice, k), k, -1)
	}
}

func TestSetKeyThatIsThere(t *testing.T) {
	a, b, c := entry(intKey(2), impl.IntValue(1)), entry(strKey("k"), impl.TextValue("x")), entry(intKey(-4), list(impl.NullValue()))
	x := list(impl.TextValue("new"))
	// The Next stays, also where it is not greater than the key.
	for _, next := range []int{3, 0, 1, 2, 100, -1, -100, impl.MaxInt, impl.MaxInt + 1, math.MaxInt, math.MinInt} {
		v := array(next, a, b, c)
		checkSet(t, v, a.Key, x, array(next, entry(a.Key, x), b, c), true)
		checkSet(t, v, b.Key, x, array(next, a, entry(b.Key, x), c), true)
		checkSet(t, v, c.Key, x, array(next, a, b, entry(c.Key, x)), true)
	}
}

func TestSetKeyThatIsNew(t *testing.T) {
	a, b := entry(intKey(2), impl.IntValue(1)), entry(strKey("k"), impl.TextValue("x"))
	x := list(impl.TextValue("new"))
	for _, c := range []struct {
		next int
		key  impl.Key
		want int
	}{
		{3, intKey(0), 3},
		{3, intKey(1), 3},
		{3, intKey(3), 4},
		{3, intKey(4), 5},
		{3, intKey(5), 6},
		{3, intKey(1000), 1001},
		{3, intKey(-1), 3},
		{3, intKey(-2), 3},
		{3, intKey(-impl.MaxInt), 3},
		{3, intKey(impl.MaxInt - 1), impl.MaxInt},
		{3, intKey(impl.MaxInt), impl.MaxInt + 1},
		{3, strKey("n"), 3},
		{3, strKey(""), 3},
		{3, strKey("1000000001"), 3},
		{3, strKey("09"), 3},
		{3, strKey(strings.Repeat("n", 400)), 3},
		{impl.MaxInt, intKey(impl.MaxInt), impl.MaxInt + 1},
		{impl.MaxInt + 1, intKey(impl.MaxInt), impl.MaxInt + 1},
		{impl.MaxInt + 1, intKey(7), impl.MaxInt + 1},
		{impl.MaxInt + 9, intKey(impl.MaxInt), impl.MaxInt + 9},
		{math.MaxInt, intKey(5), math.MaxInt},
		{math.MaxInt, strKey("n"), math.MaxInt},
		// A Next that is not valid: it is compared as it is.
		{0, intKey(0), 1},
		{0, intKey(-1), 0},
		{-1, intKey(-1), 0},
		{-5, intKey(-9), -5},
		{-5, intKey(-5), -4},
		{-5, intKey(-2), -1},
		{-5, intKey(0), 1},
		{math.MinInt, intKey(-impl.MaxInt), -impl.MaxInt + 1},
		{math.MinInt, strKey("n"), math.MinInt},
		{1, intKey(4), 5},
	} {
		checkSet(t, array(c.next, a, b), c.key, x, array(c.want, a, b, entry(c.key, x)), true)
		checkSet(t, array(c.next), c.key, x, array(c.want, entry(c.key, x)), true)
	}
}

func TestSetKeyWithWhatIsNoKey(t *testing.T) {
	x := impl.IntValue(1)
	for _, k := range []impl.Key{
		intKey(impl.MaxInt + 1), intKey(-impl.MaxInt - 1), intKey(math.MaxInt), intKey(math.MinInt), {Num: 5, Str: "a"}, {Str: "a"}, {Str: "0"},
		strKey("0"), strKey("5"), strKey("-5"), strKey("1000000000"), strKey("-1000000000"), {Text: true, Num: 1, Str: "a"}, {Text: true, Num: -1},
		strKey(strings.Repeat("a", 401)), strKey(strings.Repeat("a", 100000)),
	} {
		// The key is no key, even where an item has it already.
		for _, v := range []impl.Value{impl.ArrayValue(), list(x, list(x)), array(-3, entry(k, list(x))), array(math.MaxInt, entry(intKey(1), x), entry(k, x))} {
			checkSet(t, v, k, impl.IntValue(2), v, false)
		}
	}
}

func TestAppendItem(t *testing.T) {
	a, b := entry(strKey("k"), impl.TextValue("x")), entry(intKey(-4), list(impl.NullValue()))
	x := list(impl.TextValue("new"))
	for _, next := range []int{0, 1, 5, 1000, impl.MaxInt - 1, impl.MaxInt} {
		checkAppended(t, array(next), x, array(next+1, entry(intKey(next), x)), true)
		checkAppended(t, array(next, a, b), x, array(next+1, a, b, entry(intKey(next), x)), true)
	}
	for _, next := range []int{impl.MaxInt + 1, impl.MaxInt + 2, 2 * impl.MaxInt, 1 << 32, math.MaxInt, -1, -2, -impl.MaxInt, math.MinInt} {
		checkAppended(t, array(next), x, array(next), false)
		checkAppended(t, array(next, a, b), x, array(next, a, b), false)
	}
}

// TestAppendItemWhereTheKeyIsThere has arrays that are not valid: the key Next is taken, and so its item is changed and Next stays.
func TestAppendItemWhereTheKeyIsThere(t *testing.T) {
	x := list(impl.TextValue("new"))
	for _, next := range []int{0, 1, 7, impl.MaxInt} {
		taken, other := entry(intKey(next), impl.IntValue(1)), entry(strKey("k"), impl.IntValue(2))
		checkAppended(t, array(next, taken), x, array(next, entry(intKey(next), x)), true)
		checkAppended(t, array(next, other, taken, other, taken), x, array(next, other, entry(intKey(next), x), other, taken), true)
		// The keys above Next count for nothing.
		above := entry(intKey(next+1), impl.IntValue(3))
		checkAppended(t, array(next, above), x, array(next+1, above, entry(intKey(next), x)), true)
		// The same number in a key that is a string, or has a Str, is another key.
		unlike := []impl.Entry{entry(strKey(strconv.Itoa(next)), impl.NullValue()), entry(impl.Key{Num: next, Str: "x"}, impl.NullValue())}
		checkAppended(t, array(next, unlike...), x, array(next+1, unlike[0], unlike[1], entry(intKey(next), x)), true)
	}
	// The last free index is used once.
	full, ok := impl.AppendItem(array(impl.MaxInt), x)
	if !ok || full.Next != impl.MaxInt+1 {
		t.Errorf("%s, %v", brief(full), ok)
	}
	checkAppended(t, full, x, full, false)
	checkAppended(t, impl.DeleteKey(full, intKey(impl.MaxInt)), x, array(impl.MaxInt+1), false)
}

func TestDeleteKey(t *testing.T) {
	a, b, c := entry(intKey(0), impl.IntValue(1)), entry(strKey("k"), impl.TextValue("x")), entry(intKey(7), list(impl.NullValue()))
	for _, next := range []int{8, 100, 0, -1, impl.MaxInt + 1, math.MaxInt, math.MinInt} {
		v := array(next, a, b, c)
		checkDeleted(t, v, a.Key, array(next, b, c))
		checkDeleted(t, v, b.Key, array(next, a, c))
		checkDeleted(t, v, c.Key, array(next, a, b))
		for _, k := range []impl.Key{intKey(1), intKey(-1), intKey(8), strKey("0"), strKey("7"), strKey(""), intKey(math.MinInt)} {
			checkDeleted(t, v, k, v)
			checkDeleted(t, array(next), k, array(next))
		}
		checkDeleted(t, array(next, c), c.Key, array(next))
	}
}

// TestNextOutlivesItsItems deletes the item with the greatest key: the next item does not get its key again.
func TestNextOutlivesItsItems(t *testing.T) {
	v := list(impl.IntValue(1), impl.IntValue(2), impl.IntValue(3))
	v = impl.DeleteKey(v, intKey(2))
	checkSame(t, "two items", v, array(3, entry(intKey(0), impl.IntValue(1)), entry(intKey(1), impl.IntValue(2))))
	checkAppended(t, v, impl.IntValue(4), array(4, v.Items[0], v.Items[1], entry(intKey(3), impl.IntValue(4))), true)
	v = impl.DeleteKey(impl.DeleteKey(v, intKey(0)), intKey(1))
	checkSame(t, "no items", v, array(3))
	checkAppended(t, v, impl.IntValue(4), array(4, entry(intKey(3), impl.IntValue(4))), true)
	// A key that was deleted and set again stands at the end.
	w := list(impl.IntValue(1), impl.IntValue(2))
	checkSet(t, impl.DeleteKey(w, intKey(0)), intKey(0), impl.IntValue(5), array(2, w.Items[1], entry(intKey(0), impl.IntValue(5))), true)
}

func TestKeysOfAndValuesOf(t *testing.T) {
	for _, v := range []impl.Value{
		impl.ArrayValue(), array(5), array(-1, []impl.Entry{}...), list(impl.NullValue()), list(impl.IntValue(1), list(impl.TextValue("x")), number(99, 7)),
		array(6, entry(intKey(5), impl.IntValue(1)), entry(strKey("a"), impl.IntValue(2)), entry(intKey(-3), impl.IntValue(3)), entry(strKey(""), impl.IntValue(4)), entry(intKey(0), impl.IntValue(5))),
	} {
		checkParts(t, v, v.Items)
	}
	for _, k := range lookAlikes() {
		v := array(0, entry(k, impl.IntValue(1)), entry(k, impl.IntValue(2)))
		checkParts(t, v, v.Items)
	}
}

func TestListOf(t *testing.T) {
	for _, l := range [][]impl.Value{nil, {}, {impl.NullValue()}, {impl.IntValue(7), impl.TextValue("x")}, {list(), list(list(impl.IntValue(1)))}, otherValues(), nulls(1000), smallValues()} {
		v := impl.ListOf(l)
		checkSame(t, "ListOf", v, list(l...))
		checkParts(t, v, list(l...).Items)
		for i := range l {
			checkFound(t, v, intKey(i), i)
		}
		checkFound(t, v, intKey(len(l)), -1)
		checkFound(t, v, intKey(-1), -1)
		checkAppended(t, v, impl.IntValue(3), list(append(slices.Clone(l), impl.IntValue(3))...), true)
	}
	checkBuilt(t, "ListOf(nil)", impl.ListOf(nil), 4, 0, "")
	checkBuilt(t, "ListOf of no values", impl.ListOf([]impl.Value{}), 4, 0, "")
	checkIdentical(t, impl.ListOf(nil), impl.ArrayValue(), true)
}

// modelSet is SetKey of an array and a key.
func modelSet(v impl.Value, k impl.Key, x impl.Value) impl.Value {
	var items []impl.Entry
	isThere := false
	for _, e := range v.Items {
		if e.Key == k && !isThere {
			e.Val, isThere = x, true
		}
		items = append(items, e)
	}
	if !isThere {
		items = append(items, impl.Entry{Key: k, Val: x})
		if !k.Text && k.Num+1 > v.Next {
			v.Next = k.Num + 1
		}
	}
	v.Items = items
	return v
}

func modelDelete(v impl.Value, k impl.Key) impl.Value {
	var items []impl.Entry
	isThere := false
	for _, e := range v.Items {
		if e.Key == k && !isThere {
			isThere = true
			continue
		}
		items = append(items, e)
	}
	v.Items = items
	return v
}

// checkFree checks what a valid array promises: a free index above all of its integer keys.
func checkFree(t *testing.T, v impl.Value) {
	t.Helper()
	if !impl.IsValue(v) {
		t.Fatalf("%s is not valid", brief(v))
	}
	checkFound(t, v, intKey(v.Next), -1)
	for _, k := range impl.KeysOf(v) {
		if !k.Text && k.Num >= v.Next {
			t.Errorf("%s has the key %s", brief(v), briefKey(k))
		}
	}
}

// TestArraysKeepItemsOrderAndIndex is the promise in its own words: many changes in a row, against a model.
func TestArraysKeepItemsOrderAndIndex(t *testing.T) {
	values := []impl.Value{impl.NullValue(), impl.BoolValue(true), impl.IntValue(4), impl.TextValue("t"), impl.ArrayValue(), list(impl.IntValue(1), list(impl.TextValue("u"))), number(impl.KindObject, 9)}
	for seed := range 40 {
		random := rand.New(rand.NewSource(int64(seed)))
		v, model := impl.ArrayValue(), impl.ArrayValue()
		for range 200 {
			x := values[random.Intn(len(values))]
			k := intKey(random.Intn(20) - 4)
			if random.Intn(3) == 0 {
				k = impl.TextKey([]string{"", "a", "b", "3", "05", "-2"}[random.Intn(6)])
			}
			before := v.Next
			switch random.Intn(4) {
			case 0:
				v, model = impl.DeleteKey(v, k), modelDelete(model, k)
			case 1:
				v, _ = impl.AppendItem(v, x)
				model = modelSet(model, intKey(model.Next), x)
			default:
				v, _ = impl.SetKey(v, k, x)
				model = modelSet(model, k, x)
			}
			checkSame(t, "the array", v, model)
			checkParts(t, v, model.Items)
			if v.Next < before {
				t.Errorf("Next goes from %d to %d", before, v.Next)
			}
			for len(v.Items) > 15 {
				v, model = impl.DeleteKey(v, v.Items[3].Key), modelDelete(model, model.Items[3].Key)
			}
			checkFree(t, v)
		}
	}
}

func TestEveryChangeOfSmallValues(t *testing.T) {
	x := list(impl.IntValue(6))
	for _, v := range smallValues() {
		isArray := v.Kind == impl.KindArray
		for _, k := range []impl.Key{intKey(0), intKey(1), intKey(2), intKey(-1), strKey("a"), strKey("b"), strKey("1"), {Num: 1, Str: "1"}} {
			set, deleted := v, v
			if isArray && modelIsKey(k) {
				set = modelSet(v, k, x)
			}
			if isArray {
				deleted = modelDelete(v, k)
			}
			checkSet(t, v, k, x, set, isArray && modelIsKey(k))
			checkDeleted(t, v, k, deleted)
		}
		appended := v
		if isArray {
			appended = modelSet(v, intKey(v.Next), x)
		}
		checkAppended(t, v, x, appended, isArray)
	}
}

// arrayCall is a function of this chapter, with all that it gives back.
type arrayCall struct {
	name string
	call func(v impl.Value, k impl.Key, x impl.Value) ([]impl.Value, []impl.Key)
}

func arrayCalls() []arrayCall {
	value := func(v impl.Value, _ bool) ([]impl.Value, []impl.Key) {
		return []impl.Value{v}, nil
	}
	return []arrayCall{
		{"TextKey", func(v impl.Value, k impl.Key, x impl.Value) ([]impl.Value, []impl.Key) {
			return nil, []impl.Key{impl.TextKey(k.Str), impl.TextKey(v.Str)}
		}},
		{"KeyOf", func(v impl.Value, k impl.Key, x impl.Value) ([]impl.Value, []impl.Key) {
			key, _ := impl.KeyOf(v)
			return nil, []impl.Key{key}
		}},
		{"KeyValue", func(v impl.Value, k impl.Key, x impl.Value) ([]impl.Value, []impl.Key) {
			return value(impl.KeyValue(k), true)
		}},
		{"FindKey", func(v impl.Value, k impl.Key, x impl.Value) ([]impl.Value, []impl.Key) {
			return value(impl.IntValue(impl.FindKey(v, k)), true)
		}},
		{"GetKey", func(v impl.Value, k impl.Key, x impl.Value) ([]impl.Value, []impl.Key) {
			return value(impl.GetKey(v, k))
		}},
		{"SetKey", func(v impl.Value, k impl.Key, x impl.Value) ([]impl.Value, []impl.Key) {
			return value(impl.SetKey(v, k, x))
		}},
		{"AppendItem", func(v impl.Value, k impl.Key, x impl.Value) ([]impl.Value, []impl.Key) {
			return value(impl.AppendItem(v, x))
		}},
		{"DeleteKey", func(v impl.Value, k impl.Key, x impl.Value) ([]impl.Value, []impl.Key) {
			return value(impl.DeleteKey(v, k), true)
		}},
		{"KeysOf", func(v impl.Value, k impl.Key, x impl.Value) ([]impl.Value, []impl.Key) {
			return nil, impl.KeysOf(v)
		}},
		{"ValuesOf", func(v impl.Value, k impl.Key, x impl.Value) ([]impl.Value, []impl.Key) {
			return impl.ValuesOf(v), nil
		}},
		{"ListOf", func(v impl.Value, k impl.Key, x impl.Value) ([]impl.Value, []impl.Key) {
			return value(impl.ListOf([]impl.Value{v, x, v}), true)
		}},
	}
}

// sharingArguments has values whose items lie in the same memory, have memory behind them, and lie deep inside values of all kinds.
func sharingArguments() []impl.Value {
	inner := list(impl.TextValue("inner"), list(impl.TextValue("deep")))
	hidden := impl.Value{Kind: impl.KindObject, Num: 3, Str: "hidden", Items: []impl.Entry{entry(strKey("behind"), inner)}}
	roomy := list(impl.IntValue(1), impl.TextValue("roomy"), inner)
	roomy.Items = append(make([]impl.Entry, 0, 10), roomy.Items...)
	cleared := impl.Value{Kind: impl.KindArray, Items: roomy.Items[:0]}
	mixed := array(6, entry(intKey(0), inner), entry(strKey("a"), inner), entry(intKey(5), hidden), entry(strKey("k"), roomy))
	return []impl.Value{
		impl.NullValue(), impl.TextValue("text"), impl.ArrayValue(), inner, hidden, roomy, cleared, mixed,
		list(cleared, cleared, hidden, hidden), list(inner, inner), array(3, mixed.Items[:2]...), list(mixed, array(6, mixed.Items[1:3]...)),
		nested(5, mixed), doubled(6, inner), impl.Value{Kind: 99, Items: mixed.Items, Next: 1},
	}
}

// memory is where items and texts lie.
type memory struct {
	items map[*impl.Entry]bool
	texts map[*byte]bool
}

func newMemory() memory {
	return memory{map[*impl.Entry]bool{}, map[*byte]bool{}}
}

func (m memory) addText(s string) {
	if s != "" {
		m.texts[unsafe.StringData(s)] = true
	}
}

// addValue adds the memory of a value, also that behind its items, and reports how many items it has seen.
func (m memory) addValue(v impl.Value) int {
	m.addText(v.Str)
	all := v.Items[:cap(v.Items)]
	seen := len(all)
	for i := range all {
		m.items[&all[i]] = true
		m.addText(all[i].Key.Str)
		seen += m.addValue(all[i].Val)
	}
	return seen
}

func (m memory) meets(other memory) bool {
	return overlap(m.items, other.items) || overlap(m.texts, other.texts)
}

func overlap[P comparable](a, b map[P]bool) bool {
	for p := range a {
		if b[p] {
			return true
		}
	}
	return false
}

func TestResultsOfArraysShareNoMemory(t *testing.T) {
	keys := []impl.Key{intKey(0), intKey(1), intKey(5), strKey("a"), strKey("new"), strKey("7"), intKey(99), {Num: 1, Str: "x"}}
	for _, c := range arrayCalls() {
		for _, v := range sharingArguments() {
			for _, x := range append(sharingArguments(), v) {
				for _, k := range keys {
					// Constant texts of one program may lie in one place.
					k.Str = strings.Clone(k.Str)
					given, got := newMemory(), newMemory()
					given.addValue(v)
					given.addValue(x)
					given.addText(k.Str)
					values, resultKeys := c.call(v, k, x)
					seen := 0
					for _, w := range values {
						seen += got.addValue(w)
					}
					for _, l := range resultKeys {
						got.addText(l.Str)
					}
					if got.meets(given) {
						t.Fatalf("%s of %s, %s and %s shares memory with them", c.name, brief(v), briefKey(k), brief(x))
					}
					if seen != len(got.items) {
						t.Fatalf("%s of %s, %s and %s has two lists in the same memory", c.name, brief(v), briefKey(k), brief(x))
					}
				}
			}
		}
	}
}

// spoil changes all that lies in the memory of a value.
func spoil(v impl.Value) {
	all := v.Items[:cap(v.Items)]
	for i := range all {
		spoil(all[i].Val)
		all[i] = entry(strKey("spoilt"), impl.IntValue(-99))
	}
}

// withSpare is a copy of a value with all that lies behind its items, as its items.
func withSpare(v impl.Value) impl.Value {
	w := copied(v)
	w.Items = w.Items[:cap(w.Items)]
	return w
}

func TestArgumentsOfArraysStayAsTheyWere(t *testing.T) {
	for _, c := range arrayCalls() {
		for i, v := range sharingArguments() {
			for j := range sharingArguments() {
				for _, k := range []impl.Key{intKey(0), intKey(2), intKey(6), strKey("a"), strKey("new"), strKey("5")} {
					x := sharingArguments()[j]
					v = sharingArguments()[i]
					vBefore, xBefore := withSpare(v), withSpare(x)
					values, keys := c.call(v, k, x)
					for at := range values {
						spoil(values[at])
						values[at] = impl.IntValue(-99)
					}
					for at := range keys {
						keys[at] = strKey("spoilt")
					}
					if !reflect.DeepEqual(withSpare(v), vBefore) || !reflect.DeepEqual(withSpare(x), xBefore) {
						t.Fatalf("%s of %s, %s and %s, or a change of its result, changes them", c.name, brief(v), briefKey(k), brief(x))
					}
				}
			}
		}
	}
}

// TestChangedArgumentsDoNotChangeResults changes v and x, deep inside, after the call.
func TestChangedArgumentsDoNotChangeResults(t *testing.T) {
	for _, c := range arrayCalls() {
		for i := range sharingArguments() {
			for j := range sharingArguments() {
				for _, k := range []impl.Key{intKey(0), strKey("a"), strKey("new"), strKey("5")} {
					v, x := sharingArguments()[i], sharingArguments()[j]
					values, keys := c.call(v, k, x)
					wantValues, wantKeys := c.call(copied(v), k, copied(x))
					spoil(v)
					spoil(x)
					if !slices.EqualFunc(values, wantValues, isSame) || !slices.Equal(keys, wantKeys) {
						t.Fatalf("the result of %s changes with its arguments", c.name)
					}
				}
			}
		}
	}
}

func TestValuesInItems(t *testing.T) {
	// The value that is set is the array itself, or a part of it.
	v := list(impl.IntValue(1), list(impl.IntValue(2)))
	checkSet(t, v, intKey(0), v, list(v, list(impl.IntValue(2))), true)
	checkSet(t, v, intKey(2), v, list(impl.IntValue(1), list(impl.IntValue(2)), v), true)
	checkAppended(t, v, v.Items[1].Val, list(impl.IntValue(1), list(impl.IntValue(2)), list(impl.IntValue(2))), true)
	checkSame(t, "v", v, list(impl.IntValue(1), list(impl.IntValue(2))))
	// Both results of the same call are on their own.
	first, _ := impl.SetKey(v, strKey("a"), v)
	second, _ := impl.SetKey(v, strKey("a"), v)
	spoil(first)
	checkSame(t, "the second", second, array(2, v.Items[0], v.Items[1], entry(strKey("a"), v)))
}

func TestListOfLeavesItsListAsItWas(t *testing.T) {
	l := append(make([]impl.Value, 0, 5), impl.IntValue(1), list(impl.TextValue("x")), list(impl.TextValue("y")))
	v := impl.ListOf(l)
	spoil(v)
	v.Items = append(v.Items[:1], entry(intKey(7), impl.IntValue(7)))
	for i, want := range []impl.Value{impl.IntValue(1), list(impl.TextValue("x")), list(impl.TextValue("y")), {}, {}} {
		checkSame(t, "the list", l[:5][i], want)
	}
	v = impl.ListOf(l)
	l[0] = impl.IntValue(9)
	l[1].Items[0].Val = impl.NullValue()
	checkSame(t, "ListOf", v, list(impl.IntValue(1), list(impl.TextValue("x")), list(impl.TextValue("y"))))
}

// TestArraysAreChangedDeeperThanCalls would run out of stack if a function called itself for each array.
func TestArraysAreChangedDeeperThanCalls(t *testing.T) {
	defer debug.SetMaxStack(debug.SetMaxStack(1 << 20))
	const depth = 200000
	deep := nested(depth, impl.IntValue(1))
	for _, c := range arrayCalls() {
		for _, k := range []impl.Key{intKey(0), strKey("a"), strKey("5")} {
			c.call(deep, k, deep)
			c.call(impl.Value{Kind: impl.KindObject, Items: deep.Items}, k, deep)
		}
	}
	got, ok := impl.GetKey(deep, intKey(0))
	checkIdentical(t, got, deep.Items[0].Val, true)
	if !ok {
		t.Error("no item")
	}
	set, _ := impl.SetKey(deep, intKey(1), deep)
	checkIdentical(t, set, list(deep.Items[0].Val, deep), true)
	checkSizes(t, set, 2*depth+2, depth+1)
}

func TestLongArrays(t *testing.T) {
	const count = 100000
	v := list(nulls(count)...)
	w, _ := impl.AppendItem(v, list(impl.IntValue(1)))
	if len(w.Items) != count+1 || w.Next != count+1 || len(v.Items) != count {
		t.Errorf("%s, %s", brief(v), brief(w))
	}
	checkFound(t, w, intKey(count), count)
	checkDeleted(t, w, intKey(count), array(count+1, v.Items...))
	checkParts(t, w, w.Items)
	checkSame(t, "ListOf", impl.ListOf(impl.ValuesOf(v)), v)
}

// TestSharedItemsBecomeSeparate has two lists in one memory, within arrays that are longer than anything that is copied without regard for its size.
func TestSharedItemsBecomeSeparate(t *testing.T) {
	shared := list(impl.IntValue(1), impl.IntValue(2))
	l := append(nulls(1200000), shared, impl.NullValue(), shared)
	v := impl.ListOf(l)
	first, last := v.Items[1200000].Val, v.Items[1200002].Val
	if &first.Items[0] == &last.Items[0] || &first.Items[0] == &shared.Items[0] {
		t.Error("ListOf shares items")
	}
	checkSame(t, "the first", first, shared)
	checkSame(t, "the last", last, shared)
	for _, depth := range []int{1, 5, 12, 15} {
		got := newMemory()
		seen := got.addValue(impl.DeleteKey(doubled(depth, shared), intKey(9)))
		if seen != len(got.items) || seen != 1<<(depth+2)-2 {
			t.Errorf("at the depth %d there are %d items at %d places", depth, seen, len(got.items))
		}
	}
}

// vastValues has values whose items are endless, or too many to be copied one by one.
func vastValues() []impl.Value {
	vast := doubled(200, list(impl.TextValue("x")))
	return append(endlessValues(), vast, doubled(5000, impl.IntValue(1)), list(impl.NullValue(), vast), impl.Value{Kind: impl.KindObject, Items: vast.Items})
}

func TestVastArrays(t *testing.T) {
	before := vastValues()
	for i, v := range vastValues() {
		checkIdentical(t, impl.ListOf([]impl.Value{v, v}), list(v, v), true)
		if v.Kind == impl.KindArray {
			set, _ := impl.SetKey(v, strKey("a"), v)
			checkIdentical(t, set, modelSet(v, strKey("a"), v), true)
			checkIdentical(t, impl.DeleteKey(v, intKey(0)), modelDelete(v, intKey(0)), true)
		}
		for _, c := range arrayCalls() {
			values, _ := c.call(v, intKey(0), v)
			for _, w := range values {
				if len(w.Items) > 0 && &w.Items[0] == &v.Items[0] {
					t.Errorf("%s shares memory", c.name)
				}
				for _, e := range w.Items {
					clear(e.Val.Items)
				}
				clear(w.Items)
			}
		}
		checkIdentical(t, v, before[i], true)
	}
}

func TestArraysAreRepeatable(t *testing.T) {
	for _, v := range sharingArguments() {
		for _, c := range arrayCalls() {
			for _, k := range []impl.Key{intKey(0), strKey("a"), strKey("new"), strKey("5")} {
				first, firstKeys := c.call(v, k, impl.TextValue("x"))
				c.call(list(v, v), strKey("other"), v)
				second, secondKeys := c.call(v, k, impl.TextValue("x"))
				if !slices.EqualFunc(first, second, isSame) || !slices.Equal(firstKeys, secondKeys) {
					t.Errorf("%s of %s and %s is another one the second time", c.name, brief(v), briefKey(k))
				}
			}
		}
	}
}
