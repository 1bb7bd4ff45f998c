package tests

import (
	"fmt"
	"math"
	"math/rand"
	"reflect"
	"runtime/debug"
	"slices"
	"strings"
	"testing"

	"loop.example/g03011/impl"
)

// Promise 12: what is written at a path is read there.

// pathOf has an integer key for each number, and a string key for each text.
func pathOf(keys ...any) []impl.Key {
	path := []impl.Key{}
	for _, k := range keys {
		switch k := k.(type) {
		case int:
			path = append(path, intKey(k))
		case string:
			path = append(path, strKey(k))
		}
	}
	return path
}

func zeros(n int) []impl.Key {
	return make([]impl.Key, n)
}

func modelFind(v impl.Value, k impl.Key) int {
	if v.Kind != 4 {
		return -1
	}
	return slices.IndexFunc(v.Items, func(e impl.Entry) bool { return e.Key == k })
}

func modelGetPath(v impl.Value, path []impl.Key) (impl.Value, bool) {
	if len(path) == 0 {
		return v, true
	}
	i := modelFind(v, path[0])
	if i < 0 {
		return impl.Value{}, false
	}
	return modelGetPath(v.Items[i].Val, path[1:])
}

// modelWrite is SetPath of valid values and keys, however heavy the result is.
func modelWrite(v impl.Value, path []impl.Key, push bool, x impl.Value) (impl.Value, int) {
	if len(path) == 0 && !push {
		return x, 0
	}
	if v.Kind == 0 {
		v = impl.Value{Kind: 4}
	}
	if v.Kind != 4 {
		return v, 6
	}
	if len(path) == 0 {
		if v.Next > 1000000000 {
			return v, 7
		}
		return modelSet(v, intKey(v.Next), x), 0
	}
	inner, _ := modelGetPath(v, path[:1])
	inner, code := modelWrite(inner, path[1:], push, x)
	return modelSet(v, path[0], inner), code
}

func modelSetPath(v impl.Value, path []impl.Key, push bool, x impl.Value) (impl.Value, int) {
	if !modelIsValue(v) || !modelIsValue(x) || slices.ContainsFunc(path, func(k impl.Key) bool { return !modelIsKey(k) }) {
		return v, 5
	}
	changed, code := modelWrite(v, path, push, x)
	if code == 0 && modelWeight(changed) > 200 {
		code = 9
	}
	if code != 0 {
		return v, code
	}
	return changed, 0
}

func modelDeletePath(v impl.Value, path []impl.Key) impl.Value {
	if len(path) == 0 || modelFind(v, path[0]) < 0 {
		return v
	}
	if len(path) == 1 {
		return modelDelete(v, path[0])
	}
	inner := v.Items[modelFind(v, path[0])].Val
	return modelSet(v, path[0], modelDeletePath(inner, path[1:]))
}

// briefPath shows the first keys of a path.
func briefPath(path []impl.Key) string {
	return fmt.Sprintf("%.200s and so on, %d keys", fmt.Sprintf("%+v", path[:min(len(path), 8)]), len(path))
}

func checkGetPath(t *testing.T, v impl.Value, path []impl.Key, want impl.Value, wantOK bool) {
	t.Helper()
	got, ok := impl.GetPath(v, path)
	if !isSame(got, want) || ok != wantOK {
		t.Errorf("GetPath(%s, %s) = %s, %v; want %s, %v", brief(v), briefPath(path), brief(got), ok, brief(want), wantOK)
	}
}

func checkMissing(t *testing.T, v impl.Value, path []impl.Key) {
	t.Helper()
	checkGetPath(t, v, path, impl.NullValue(), false)
}

func checkSetPath(t *testing.T, v impl.Value, path []impl.Key, push bool, x, want impl.Value, code int) {
	t.Helper()
	got, gotCode := impl.SetPath(v, path, push, x)
	if !isSame(got, want) || gotCode != code {
		t.Errorf("SetPath(%s, %s, %v, %s) = %s, %d; want %s, %d", brief(v), briefPath(path), push, brief(x), brief(got), gotCode, brief(want), code)
	}
}

// checkWrites also checks what the document promises of a change: it is valid, and what was written is read.
func checkWrites(t *testing.T, v impl.Value, path []impl.Key, push bool, x, want impl.Value) {
	t.Helper()
	checkSetPath(t, v, path, push, x, want, impl.ErrNone)
	checkValid(t, want, true)
	if push {
		before, _ := impl.GetPath(v, path)
		path = append(slices.Clone(path), intKey(before.Next))
	}
	checkGetPath(t, want, path, x, true)
}

func checkRefused(t *testing.T, v impl.Value, path []impl.Key, push bool, x impl.Value, code int) {
	t.Helper()
	checkSetPath(t, v, path, push, x, v, code)
}

// checkRefusedEither is checkRefused with and without push.
func checkRefusedEither(t *testing.T, v impl.Value, path []impl.Key, x impl.Value, code int) {
	t.Helper()
	checkRefused(t, v, path, false, x, code)
	checkRefused(t, v, path, true, x, code)
}

func checkDeletePath(t *testing.T, v impl.Value, path []impl.Key, want impl.Value) {
	t.Helper()
	if got := impl.DeletePath(v, path); !isSame(got, want) {
		t.Errorf("DeletePath(%s, %s) = %s; want %s", brief(v), briefPath(path), brief(got), brief(want))
	}
}

// checkPathAsModel checks all that this chapter says of a value, a path and another value, and returns the codes of writing without push and with it.
func checkPathAsModel(t *testing.T, v impl.Value, path []impl.Key, x impl.Value) [2]int {
	t.Helper()
	end, ok := modelGetPath(v, path)
	checkGetPath(t, v, path, end, ok)
	checkDeletePath(t, v, path, modelDeletePath(v, path))
	written, code := modelSetPath(v, path, false, x)
	checkSetPath(t, v, path, false, x, written, code)
	pushed, pushCode := modelSetPath(v, path, true, x)
	checkSetPath(t, v, path, true, x, pushed, pushCode)
	return [2]int{code, pushCode}
}

// deepValue has arrays in arrays, and behind its own keys a value of every kind.
func deepValue() impl.Value {
	inner := array(9, entry(intKey(-5), impl.TextValue("deep")), entry(strKey("b"), impl.NullValue()))
	return array(6,
		entry(strKey("a"), array(3, entry(intKey(2), list(impl.TextValue("x"), inner)), entry(strKey("b"), impl.IntValue(10)))),
		entry(intKey(5), list(impl.IntValue(1), list(impl.IntValue(2), impl.IntValue(3)))),
		entry(intKey(-3), array(0, entry(strKey(""), impl.BoolValue(true)))),
		entry(strKey("null"), impl.NullValue()), entry(strKey("bool"), impl.BoolValue(true)), entry(strKey("int"), impl.IntValue(7)), entry(strKey("text"), impl.TextValue("text")),
		entry(strKey("object"), number(impl.KindObject, 1)), entry(strKey("closure"), number(impl.KindClosure, 2)), entry(strKey("gen"), number(impl.KindGen, 3)),
		entry(strKey("empty"), array(4)),
	)
}

// closedKeys has the keys of deepValue behind which nothing can be written.
func closedKeys() []string {
	return []string{"bool", "int", "text", "object", "closure", "gen"}
}

// noKeys has what is no key, each for another reason.
func noKeys() []impl.Key {
	return []impl.Key{
		intKey(impl.MaxInt + 1), intKey(-impl.MaxInt - 1), intKey(math.MaxInt), intKey(math.MinInt), {Num: 5, Str: "a"}, {Str: "0"},
		strKey("0"), strKey("-5"), strKey("1000000000"), {Text: true, Num: 1, Str: "a"}, {Text: true, Num: -1}, strKey(strings.Repeat("a", 401)),
	}
}

func badValues() []impl.Value {
	return append(badArrays(),
		number(impl.KindNull, 1), number(impl.KindBool, 2), impl.IntValue(impl.MaxInt+1), impl.TextValue(strings.Repeat("t", 401)), number(impl.KindHandle, 0), number(impl.KindObject, 256), number(impl.KindClosure, -1), number(impl.KindGen, 256), number(9, 0), number(-1, 0),
		impl.Value{Kind: impl.KindNull, Next: 1}, impl.Value{Kind: impl.KindNull, Items: list(impl.NullValue()).Items}, impl.Value{Kind: impl.KindObject, Items: deepValue().Items},
	)
}

func TestGetPath(t *testing.T) {
	v := deepValue()
	checkGetPath(t, v, pathOf("a"), v.Items[0].Val, true)
	checkGetPath(t, v, pathOf("a", "b"), impl.IntValue(10), true)
	checkGetPath(t, v, pathOf("a", 2), v.Items[0].Val.Items[0].Val, true)
	checkGetPath(t, v, pathOf("a", 2, 0), impl.TextValue("x"), true)
	checkGetPath(t, v, pathOf("a", 2, 1, -5), impl.TextValue("deep"), true)
	checkGetPath(t, v, pathOf("a", 2, 1, "b"), impl.NullValue(), true)
	checkGetPath(t, v, pathOf(5, 1), list(impl.IntValue(2), impl.IntValue(3)), true)
	checkGetPath(t, v, pathOf(5, 1, 1), impl.IntValue(3), true)
	checkGetPath(t, v, pathOf(-3, ""), impl.BoolValue(true), true)
	checkGetPath(t, v, pathOf("empty"), array(4), true)
	for _, e := range v.Items {
		checkGetPath(t, v, []impl.Key{e.Key}, e.Val, true)
	}
}

func TestGetPathOfTheEmptyPath(t *testing.T) {
	for _, v := range append(append(smallValues(), otherValues()...), deepValue(), array(impl.MaxInt+9)) {
		checkGetPath(t, v, nil, v, true)
		checkGetPath(t, v, pathOf(), v, true)
		checkGetPath(t, v, pathOf("a", "b")[:0], v, true)
	}
}

func TestGetPathThatIsMissing(t *testing.T) {
	v := deepValue()
	for _, path := range [][]impl.Key{
		// The first key, one in the middle, and the last one.
		pathOf("x"), pathOf("x", 2, 1), pathOf(0), pathOf(0, 1), pathOf(-5), pathOf("A"), pathOf("a", "x", 0), pathOf("a", 1, 0, 0), pathOf("a", 2, 5, -5), pathOf("a", "c"), pathOf("a", 2, 2), pathOf("a", 2, 1, 5), pathOf("a", 2, 1, -6), pathOf("a", 2, 1, "c"), pathOf(5, 1, 2), pathOf(5, 2), pathOf(-3, "a"), pathOf(-3, 0), pathOf("empty", 0), pathOf("empty", 3), pathOf("empty", ""),
		// The keys are there, but in another order.
		pathOf("b", "a"), pathOf(2, "a"), pathOf("b"),
		// The string is not the integer.
		pathOf("5"), pathOf("5", 1), pathOf(5, "1"), pathOf("-3", ""),
	} {
		checkMissing(t, v, path)
		checkMissing(t, v, append(path, intKey(0)))
	}
	for _, name := range append(closedKeys(), "null") {
		for _, k := range pathOf(0, 1, -1, 7, "", "a", name, "text") {
			checkMissing(t, v, append(pathOf(name), k))
			checkMissing(t, v, append(pathOf(name), k, k))
			checkMissing(t, list(v), append(pathOf(0, name), k, k, k))
		}
	}
	checkMissing(t, v, pathOf("a", 2, 0, 0))
	checkMissing(t, v, pathOf("a", 2, 1, -5, 0))
	checkMissing(t, v, pathOf("a", 2, 1, "b", "b", "b"))
	checkMissing(t, nested(5, impl.IntValue(1)), zeros(6))
	checkMissing(t, nested(5, impl.ArrayValue()), zeros(6))
	checkMissing(t, nested(5, impl.IntValue(1)), zeros(1000))
}

// TestGetPathOfOtherValues has values that are no arrays and yet have items.
func TestGetPathOfOtherValues(t *testing.T) {
	for _, v := range otherValues() {
		for _, path := range [][]impl.Key{pathOf(0), pathOf("a"), pathOf("a", 0), pathOf(4), pathOf("", 0, 0)} {
			checkMissing(t, v, path)
			checkMissing(t, list(v), append(pathOf(0), path...))
			checkMissing(t, array(0, entry(strKey("b"), list(impl.NullValue(), v))), append(pathOf("b", 1), path...))
		}
		checkGetPath(t, array(0, entry(strKey("b"), list(impl.NullValue(), v))), pathOf("b", 1), v, true)
	}
}

// TestPathsCompareKeysAsAWhole has arrays that are not valid: what is no key is found like any other.
func TestPathsCompareKeysAsAWhole(t *testing.T) {
	for i, k := range lookAlikes() {
		x := list(impl.IntValue(i))
		outer, inner := array(9, entry(k, x)), array(-2, entry(strKey("in"), array(9, entry(k, x))))
		for j, l := range lookAlikes() {
			if i == j {
				checkGetPath(t, outer, []impl.Key{l}, x, true)
				checkGetPath(t, outer, []impl.Key{l, {}}, impl.IntValue(i), true)
				checkGetPath(t, inner, []impl.Key{strKey("in"), l}, x, true)
				checkDeletePath(t, outer, []impl.Key{l}, array(9))
				checkDeletePath(t, outer, []impl.Key{l, {}}, array(9, entry(k, array(1))))
				checkDeletePath(t, inner, []impl.Key{strKey("in"), l}, array(-2, entry(strKey("in"), array(9))))
				continue
			}
			checkMissing(t, outer, []impl.Key{l})
			checkMissing(t, outer, []impl.Key{l, {}})
			checkMissing(t, inner, []impl.Key{strKey("in"), l})
			checkDeletePath(t, outer, []impl.Key{l}, outer)
			checkDeletePath(t, outer, []impl.Key{l, {}}, outer)
			checkDeletePath(t, inner, []impl.Key{strKey("in"), l}, inner)
		}
	}
}

func TestPathsOfRepeatedKeys(t *testing.T) {
	for _, k := range []impl.Key{intKey(3), intKey(-1), strKey("a"), strKey("")} {
		one, two := list(impl.IntValue(1)), list(impl.IntValue(2), impl.IntValue(3))
		v := array(9, entry(strKey("other"), two), entry(k, one), entry(k, two))
		checkGetPath(t, v, []impl.Key{k}, one, true)
		checkGetPath(t, v, []impl.Key{k, {}}, impl.IntValue(1), true)
		// The second item with the key has it, but the first one counts.
		checkMissing(t, v, []impl.Key{k, {Num: 1}})
		checkDeletePath(t, v, []impl.Key{k, {Num: 1}}, v)
		checkDeletePath(t, v, []impl.Key{k}, array(9, entry(strKey("other"), two), entry(k, two)))
		checkDeletePath(t, v, []impl.Key{k, {}}, array(9, entry(strKey("other"), two), entry(k, array(1)), entry(k, two)))
		checkRefusedEither(t, v, []impl.Key{k}, one, impl.ErrKey)
	}
}

func TestSetPathOfTheEmptyPath(t *testing.T) {
	values := []impl.Value{impl.NullValue(), impl.BoolValue(false), impl.IntValue(-4), impl.TextValue("t"), impl.ArrayValue(), deepValue(), number(impl.KindObject, 255), list(nulls(199)...), array(impl.MaxInt + 1)}
	for _, v := range values {
		for _, x := range values {
			checkWrites(t, v, nil, false, x, x)
			checkWrites(t, v, pathOf(), false, x, x)
		}
	}
}

func TestSetPath(t *testing.T) {
	x := impl.TextValue("new")
	one := func(v impl.Value) impl.Value {
		return array(4, entry(strKey("a"), v), entry(intKey(3), impl.IntValue(1)))
	}
	in := list(impl.IntValue(5), list(impl.IntValue(6)))
	for _, c := range []struct {
		v    impl.Value
		path []impl.Key
		want impl.Value
	}{
		// What is there is replaced where it stands, whatever it is.
		{one(in), pathOf("a"), one(x)},
		{one(in), pathOf(3), array(4, entry(strKey("a"), in), entry(intKey(3), x))},
		{one(in), pathOf("a", 0), one(list(x, list(impl.IntValue(6))))},
		{one(in), pathOf("a", 1), one(list(impl.IntValue(5), x))},
		{one(in), pathOf("a", 1, 0), one(list(impl.IntValue(5), list(x)))},
		{one(impl.NullValue()), pathOf("a"), one(x)},
		{one(number(impl.KindObject, 3)), pathOf("a"), one(x)},
		{nested(150, impl.IntValue(1)), zeros(150), nested(150, x)},
		{nested(150, impl.IntValue(1)), zeros(100), nested(100, x)},
		// What is missing is added behind.
		{one(in), pathOf("b"), array(4, one(in).Items[0], one(in).Items[1], entry(strKey("b"), x))},
		{one(in), pathOf(0), array(4, one(in).Items[0], one(in).Items[1], entry(intKey(0), x))},
		{one(in), pathOf(4), array(5, one(in).Items[0], one(in).Items[1], entry(intKey(4), x))},
		{one(in), pathOf(90), array(91, one(in).Items[0], one(in).Items[1], entry(intKey(90), x))},
		{one(in), pathOf(-1), array(4, one(in).Items[0], one(in).Items[1], entry(intKey(-1), x))},
		{one(in), pathOf("a", 2), one(list(impl.IntValue(5), list(impl.IntValue(6)), x))},
		{one(in), pathOf("a", 7), one(array(8, in.Items[0], in.Items[1], entry(intKey(7), x)))},
		{one(in), pathOf("a", ""), one(array(2, in.Items[0], in.Items[1], entry(strKey(""), x)))},
		{one(in), pathOf("a", 1, -7), one(list(impl.IntValue(5), array(1, entry(intKey(0), impl.IntValue(6)), entry(intKey(-7), x))))},
		{impl.ArrayValue(), pathOf(-2), array(0, entry(intKey(-2), x))},
		{array(7), pathOf(2), array(7, entry(intKey(2), x))},
	} {
		checkWrites(t, c.v, c.path, false, x, c.want)
	}
}

func TestSetPathCreatesArrays(t *testing.T) {
	x := list(impl.TextValue("new"))
	a := func(v impl.Value) impl.Value {
		return array(0, entry(strKey("a"), v))
	}
	null := impl.NullValue()
	for _, v := range []impl.Value{null, impl.ArrayValue()} {
		checkWrites(t, v, pathOf("a"), false, x, a(x))
		checkWrites(t, v, pathOf(0), false, x, list(x))
		checkWrites(t, v, pathOf(5), false, x, array(6, entry(intKey(5), x)))
		checkWrites(t, v, pathOf(-5), false, x, array(0, entry(intKey(-5), x)))
		checkWrites(t, v, pathOf("a", 0), false, x, a(list(x)))
		checkWrites(t, v, pathOf("a", -1, "a", 3), false, x, a(array(0, entry(intKey(-1), a(array(4, entry(intKey(3), x)))))))
		checkWrites(t, v, zeros(190), false, x, nested(190, x))
		checkWrites(t, v, pathOf("a", 0), false, null, a(list(null)))
	}
	// Null stands at the end of the path, in its middle, or nothing does.
	checkWrites(t, a(null), pathOf("a", 2), false, x, a(array(3, entry(intKey(2), x))))
	checkWrites(t, a(null), pathOf("a", "a", "a"), false, x, a(a(a(x))))
	checkWrites(t, a(a(null)), pathOf("a", "a", "a"), false, x, a(a(a(x))))
	checkWrites(t, list(impl.IntValue(1), null, impl.IntValue(2)), pathOf(1, 0, "a"), false, x, list(impl.IntValue(1), list(a(x)), impl.IntValue(2)))
	checkWrites(t, list(impl.IntValue(1)), pathOf(1, 0, "a"), false, x, list(impl.IntValue(1), list(a(x))))
	checkWrites(t, list(a(impl.IntValue(1))), pathOf(0, "b", 0), false, x, list(array(0, entry(strKey("a"), impl.IntValue(1)), entry(strKey("b"), list(x)))))
	// An empty array keeps its Next, but null has none.
	checkWrites(t, a(array(8)), pathOf("a", 0), false, x, a(array(8, entry(intKey(0), x))))
	checkWrites(t, a(null), pathOf("a", 0), false, x, a(list(x)))
}

func TestPush(t *testing.T) {
	x := list(impl.TextValue("new"))
	checkWrites(t, impl.ArrayValue(), nil, true, x, list(x))
	checkWrites(t, list(impl.IntValue(1)), nil, true, x, list(impl.IntValue(1), x))
	checkWrites(t, array(7), nil, true, x, array(8, entry(intKey(7), x)))
	checkWrites(t, array(0, entry(strKey("a"), x)), nil, true, impl.NullValue(), array(1, entry(strKey("a"), x), entry(intKey(0), impl.NullValue())))
	checkWrites(t, array(3, entry(intKey(0), x), entry(intKey(-9), x)), nil, true, x, array(4, entry(intKey(0), x), entry(intKey(-9), x), entry(intKey(3), x)))
	// The end of the path is the array itself, not the key before it.
	checkWrites(t, list(impl.IntValue(1), list(impl.IntValue(2))), pathOf(1), true, x, list(impl.IntValue(1), list(impl.IntValue(2), x)))
	checkWrites(t, list(impl.IntValue(1), array(5)), pathOf(1), true, x, list(impl.IntValue(1), array(6, entry(intKey(5), x))))
	checkWrites(t, nested(3, array(2, entry(strKey("k"), x))), zeros(3), true, x, nested(3, array(3, entry(strKey("k"), x), entry(intKey(2), x))))
	checkWrites(t, array(0, entry(intKey(-5), array(4))), pathOf(-5), true, x, array(0, entry(intKey(-5), array(5, entry(intKey(4), x)))))
	// Pushing again takes the next key, also when an item has been deleted.
	v, _ := impl.SetPath(impl.NullValue(), pathOf("l"), true, impl.IntValue(1))
	v, _ = impl.SetPath(v, pathOf("l"), true, impl.IntValue(2))
	v, _ = impl.SetPath(impl.DeletePath(v, pathOf("l", 1)), pathOf("l"), true, impl.IntValue(3))
	checkSame(t, "the pushed values", v, array(0, entry(strKey("l"), array(3, entry(intKey(0), impl.IntValue(1)), entry(intKey(2), impl.IntValue(3))))))
}

func TestPushOntoWhatIsMissing(t *testing.T) {
	x, null := list(impl.TextValue("new")), impl.NullValue()
	a := func(v impl.Value) impl.Value {
		return array(0, entry(strKey("a"), v))
	}
	// Null stands there.
	checkWrites(t, null, nil, true, x, list(x))
	checkWrites(t, a(null), pathOf("a"), true, x, a(list(x)))
	checkWrites(t, list(a(null)), pathOf(0, "a"), true, x, list(a(list(x))))
	// Nothing does, at the first place and at deeper ones.
	for _, v := range []impl.Value{null, impl.ArrayValue()} {
		checkWrites(t, v, pathOf("a"), true, x, a(list(x)))
		checkWrites(t, v, pathOf(4), true, x, array(5, entry(intKey(4), list(x))))
		checkWrites(t, v, pathOf(-4), true, x, array(0, entry(intKey(-4), list(x))))
		checkWrites(t, v, pathOf("a", "a"), true, x, a(a(list(x))))
		checkWrites(t, v, zeros(150), true, x, nested(151, x))
		checkWrites(t, v, pathOf("a"), true, null, a(list(null)))
	}
	checkWrites(t, a(impl.IntValue(1)), pathOf("b"), true, x, array(0, entry(strKey("a"), impl.IntValue(1)), entry(strKey("b"), list(x))))
	checkWrites(t, list(impl.IntValue(1)), pathOf(1), true, x, list(impl.IntValue(1), list(x)))
	checkWrites(t, a(list(impl.IntValue(1))), pathOf("a", 1), true, x, a(list(impl.IntValue(1), list(x))))
	checkWrites(t, a(null), pathOf("a", 2, "a"), true, x, a(array(3, entry(intKey(2), a(list(x))))))
	checkWrites(t, a(array(6)), pathOf("a", "b", "a"), true, x, a(array(6, entry(strKey("b"), a(list(x))))))
}

func TestPathsAtTheLastIndex(t *testing.T) {
	const most = impl.MaxInt
	x := impl.IntValue(9)
	full := array(most + 1)
	last := array(most+1, entry(intKey(most), x))
	for _, around := range []func(impl.Value) (impl.Value, []impl.Key){
		func(v impl.Value) (impl.Value, []impl.Key) { return v, nil },
		func(v impl.Value) (impl.Value, []impl.Key) { return list(x, v), pathOf(1) },
		func(v impl.Value) (impl.Value, []impl.Key) {
			return array(most+1, entry(strKey("a"), list(v))), pathOf("a", 0)
		},
	} {
		free, path := around(array(most))
		pushed, _ := around(last)
		checkWrites(t, free, path, true, x, pushed)
		checkWrites(t, free, append(path, intKey(most)), false, x, pushed)
		almost, _ := around(array(most - 1))
		after, _ := around(array(most, entry(intKey(most-1), x)))
		checkWrites(t, almost, path, true, x, after)
		for _, v := range []impl.Value{full, last, array(most+1, entry(intKey(0), x), entry(strKey("a"), list(x)))} {
			outer, _ := around(v)
			checkRefused(t, outer, path, true, x, impl.ErrFull)
			// Keys are written all the same, and what is missing there is no full array.
			set, _ := around(modelSet(v, intKey(5), x))
			checkWrites(t, outer, append(path, intKey(5)), false, x, set)
			set, _ = around(modelSet(v, intKey(-most), list(x)))
			checkWrites(t, outer, append(path, intKey(-most)), true, x, set)
			set, _ = around(modelSet(v, strKey("new"), list(x)))
			checkWrites(t, outer, append(path, strKey("new")), true, x, set)
		}
	}
	checkWrites(t, impl.NullValue(), pathOf(most, -most), false, x, array(most+1, entry(intKey(most), array(0, entry(intKey(-most), x)))))
	checkWrites(t, impl.NullValue(), pathOf(most-1), true, x, array(most, entry(intKey(most-1), list(x))))
}

func TestSetPathWithWhatIsNoKey(t *testing.T) {
	x, v := impl.IntValue(1), deepValue()
	for _, bad := range noKeys() {
		checkKey(t, bad, false)
		for _, path := range [][]impl.Key{
			{bad}, {bad, {}}, {{}, bad}, {strKey("a"), bad}, {bad, strKey("a")}, {strKey("a"), intKey(2), bad}, {strKey("a"), bad, intKey(2)}, {strKey("empty"), bad}, {strKey("null"), bad},
			// A key before it gives another error.
			{strKey("int"), bad}, {strKey("int"), intKey(0), bad}, {strKey("text"), {}, {}, bad}, {strKey("a"), strKey("b"), {}, bad},
			append(zeros(199), bad), append(zeros(200), bad), append(zeros(201), bad), append(zeros(5000), bad), append([]impl.Key{bad}, zeros(5000)...),
		} {
			for _, w := range []impl.Value{v, impl.NullValue(), impl.ArrayValue(), impl.IntValue(3), list(nulls(199)...), array(impl.MaxInt + 1)} {
				checkRefusedEither(t, w, path, x, impl.ErrKey)
				checkRefusedEither(t, w, path, list(nulls(199)...), impl.ErrKey)
			}
		}
	}
	// Keys at the limits.
	for _, k := range []impl.Key{intKey(impl.MaxInt), intKey(-impl.MaxInt), strKey(strings.Repeat("a", 400)), strKey("1000000001"), strKey("05"), strKey("")} {
		want, _ := modelSetPath(v, []impl.Key{strKey("a"), k}, false, x)
		checkWrites(t, v, []impl.Key{strKey("a"), k}, false, x, want)
	}
}

func TestSetPathWithValuesThatAreNotValid(t *testing.T) {
	goods := []impl.Value{impl.NullValue(), impl.IntValue(1), impl.ArrayValue(), deepValue(), list(nulls(199)...), array(impl.MaxInt + 1)}
	// The paths give no error, or any other one.
	paths := [][]impl.Key{nil, zeros(1), pathOf("a"), pathOf("a", 2, 1, -5), pathOf("int", 0), pathOf(0, 0, 0), zeros(300), noKeys()[:1]}
	for _, bad := range badValues() {
		checkValid(t, bad, false)
		for _, path := range paths {
			for _, good := range goods {
				checkRefusedEither(t, bad, path, good, impl.ErrKey)
				checkRefusedEither(t, good, path, bad, impl.ErrKey)
			}
			checkRefusedEither(t, bad, path, bad, impl.ErrKey)
		}
	}
}

func TestSetPathBehindOtherValues(t *testing.T) {
	x, v := impl.IntValue(1), deepValue()
	for _, name := range closedKeys() {
		closed, _ := impl.GetPath(v, pathOf(name))
		// A key, also of another place, is applied to it.
		for _, k := range []impl.Key{intKey(0), intKey(1), intKey(-1), strKey(""), strKey("a"), strKey(name)} {
			for _, rest := range [][]impl.Key{nil, zeros(1), pathOf("a", "b"), zeros(198), zeros(199), zeros(200), zeros(1000)} {
				checkRefusedEither(t, v, append(append(pathOf(name), k), rest...), x, impl.ErrIndex)
				checkRefusedEither(t, closed, append([]impl.Key{k}, rest...), x, impl.ErrIndex)
				checkRefusedEither(t, list(v, list(closed)), append(append(pathOf(1, 0), k), rest...), x, impl.ErrIndex)
			}
		}
		// The pushing is.
		checkRefused(t, closed, nil, true, x, impl.ErrIndex)
		checkRefused(t, v, pathOf(name), true, x, impl.ErrIndex)
		checkRefused(t, list(v), pathOf(0, name), true, x, impl.ErrIndex)
		// Without it, what stands at the end is replaced.
		checkWrites(t, closed, nil, false, x, x)
		checkWrites(t, v, pathOf(name), false, x, modelSet(v, strKey(name), x))
	}
	checkRefusedEither(t, nested(199, impl.IntValue(1)), zeros(200), x, impl.ErrIndex)
	checkRefusedEither(t, nested(199, impl.IntValue(1)), zeros(201), x, impl.ErrIndex)
	checkRefused(t, nested(199, impl.IntValue(1)), zeros(199), true, x, impl.ErrIndex)
}

// TestFirstErrorOfSetPath has calls in which two errors or more would apply.
func TestFirstErrorOfSetPath(t *testing.T) {
	bad, badKey, heavy := number(9, 0), noKeys()[0], list(nulls(199)...)
	closed := modelSet(list(nulls(197)...), strKey("int"), impl.IntValue(1))
	full := array(impl.MaxInt+1, list(nulls(199)...).Items...)
	checkValid(t, full, true)
	for _, c := range []struct {
		v    impl.Value
		path []impl.Key
		push bool
		x    impl.Value
		code int
	}{
		// What is no key, or not valid, with an index, a full array and too much weight.
		{closed, append(pathOf("int"), badKey), false, heavy, impl.ErrKey},
		{closed, pathOf("int", 0), false, bad, impl.ErrKey},
		{list(bad, impl.IntValue(1)), pathOf(1, 0), false, heavy, impl.ErrKey},
		{closed, pathOf("int"), true, bad, impl.ErrKey},
		{full, nil, true, bad, impl.ErrKey},
		{list(bad, array(impl.MaxInt+1)), pathOf(1), true, heavy, impl.ErrKey},
		{heavy, append(pathOf("a"), badKey), false, heavy, impl.ErrKey},
		{heavy, nil, true, bad, impl.ErrKey},
		// An index with too much weight.
		{closed, pathOf("int", 0), false, heavy, impl.ErrIndex},
		{closed, pathOf("int"), true, heavy, impl.ErrIndex},
		{closed, append(pathOf("int"), zeros(300)...), false, heavy, impl.ErrIndex},
		{closed, append(pathOf("int"), zeros(300)...), true, heavy, impl.ErrIndex},
		{impl.IntValue(1), zeros(5000), false, heavy, impl.ErrIndex},
		{impl.IntValue(1), nil, true, heavy, impl.ErrIndex},
		// A full array with too much weight.
		{full, nil, true, impl.NullValue(), impl.ErrFull},
		{full, nil, true, heavy, impl.ErrFull},
		{list(array(impl.MaxInt + 1)), pathOf(0), true, heavy, impl.ErrFull},
		// Each where it is the only one.
		{closed, pathOf("int", 0), false, impl.NullValue(), impl.ErrIndex},
		{array(impl.MaxInt + 1), nil, true, impl.NullValue(), impl.ErrFull},
		{full, pathOf("a"), false, impl.NullValue(), impl.ErrMemory},
		{full, pathOf("a"), true, impl.NullValue(), impl.ErrMemory},
		{heavy, nil, true, impl.NullValue(), impl.ErrMemory},
	} {
		checkRefused(t, c.v, c.path, c.push, c.x, c.code)
	}
}

// TestWeightOfWrittenPaths has changed values that weigh just as much as a value may weigh, and 1 more.
func TestWeightOfWrittenPaths(t *testing.T) {
	null := impl.NullValue()
	for _, c := range []struct {
		v    impl.Value
		path []impl.Key
		push bool
		// room is what x may weigh.
		room int
	}{
		{list(nulls(150)...), pathOf("a"), false, 49},
		{list(nulls(150)...), nil, true, 49},
		{list(nulls(150)...), pathOf("a", "b"), false, 48},
		{list(nulls(150)...), pathOf("a", "b"), true, 47},
		{list(nulls(150)...), pathOf(0), false, 50},
		{list(nulls(150)...), pathOf(0), true, 49},
		{list(nulls(198)...), pathOf("a"), false, 1},
		{list(nulls(198)...), nil, true, 1},
		{list(nulls(199)...), pathOf(198), false, 1},
		{null, pathOf("a"), false, 199},
		{null, nil, true, 199},
		{null, nil, false, 200},
		{null, zeros(199), false, 1},
		{null, zeros(198), true, 1},
		{null, zeros(100), false, 100},
		{nested(199, null), zeros(199), false, 1},
		{nested(199, null), zeros(198), false, 2},
		{nested(199, null), zeros(198), true, 0},
		{nested(199, null), zeros(199), true, 0},
		{nested(198, null), zeros(198), true, 1},
		{nested(199, array(0)), zeros(199), true, 0},
		{list(list(nulls(100)...), list(nulls(60)...)), pathOf(1), true, 37},
		// A heavy value is replaced: its weight does not count any more.
		{list(nulls(199)...), nil, false, 200},
		{list(list(nulls(198)...)), pathOf(0), false, 199},
		{list(null, list(nulls(197)...)), pathOf(1), false, 198},
		{list(null, list(nulls(100)...), list(nulls(96)...)), pathOf(1), false, 101},
		{nested(100, list(nulls(99)...)), zeros(100), false, 100},
		{nested(100, list(nulls(99)...)), zeros(50), false, 150},
	} {
		for _, x := range []impl.Value{list(nulls(max(0, c.room-1))...), nested(max(0, c.room-1), null)} {
			if c.room > 0 {
				checkSizes(t, x, c.room, impl.Nest(x))
				want, _ := modelWrite(c.v, c.path, c.push, x)
				checkWrites(t, c.v, c.path, c.push, x, want)
				checkSizes(t, want, modelWeight(want), modelNest(want))
			}
			if c.room < impl.MaxWeight {
				heavier := list(x)
				if c.room == 0 {
					heavier = null
				}
				checkRefused(t, c.v, c.path, c.push, heavier, impl.ErrMemory)
			}
		}
	}
	// Just as heavy as allowed, and still so after each change.
	got, code := impl.SetPath(list(null, list(nulls(197)...)), pathOf(1, 5), false, impl.IntValue(1))
	if code != impl.ErrNone || impl.Weight(got) != impl.MaxWeight {
		t.Errorf("%s, %d", brief(got), code)
	}
	for _, n := range []int{200, 201, 202, 500, 5000} {
		checkRefusedEither(t, null, zeros(n), null, impl.ErrMemory)
		checkRefusedEither(t, impl.ArrayValue(), zeros(n), null, impl.ErrMemory)
		checkRefusedEither(t, nested(199, null), zeros(n), null, impl.ErrMemory)
		checkRefusedEither(t, nested(199, array(0)), zeros(n), null, impl.ErrMemory)
	}
}

func TestDeletePath(t *testing.T) {
	v := deepValue()
	a := v.Items[0].Val
	checkDeletePath(t, v, pathOf("a"), array(6, v.Items[1:]...))
	checkDeletePath(t, v, pathOf(-3), array(6, append(slices.Clone(v.Items[:2]), v.Items[3:]...)...))
	checkDeletePath(t, v, pathOf("empty"), array(6, v.Items[:len(v.Items)-1]...))
	checkDeletePath(t, v, pathOf("a", "b"), modelSet(v, strKey("a"), array(3, a.Items[0])))
	checkDeletePath(t, v, pathOf("a", 2), modelSet(v, strKey("a"), array(3, a.Items[1])))
	checkDeletePath(t, v, pathOf("a", 2, 0), modelSet(v, strKey("a"), array(3, entry(intKey(2), array(2, a.Items[0].Val.Items[1])), a.Items[1])))
	checkDeletePath(t, v, pathOf(5, 1, 0), modelSet(v, intKey(5), list(impl.IntValue(1), array(2, entry(intKey(1), impl.IntValue(3))))))
	// An array without items stays where it is and keeps its Next.
	checkDeletePath(t, v, pathOf(-3, ""), modelSet(v, intKey(-3), array(0)))
	checkDeletePath(t, list(impl.IntValue(1)), pathOf(0), array(1))
	checkDeletePath(t, nested(3, impl.IntValue(1)), zeros(3), nested(2, array(1)))
	checkDeletePath(t, nested(3, impl.IntValue(1)), zeros(2), list(array(1)))
	checkDeletePath(t, array(0, entry(strKey("a"), array(50, entry(intKey(-2), impl.NullValue())))), pathOf("a", -2), array(0, entry(strKey("a"), array(50))))
	checkDeletePath(t, list(array(impl.MaxInt+1, entry(intKey(impl.MaxInt), impl.NullValue()))), pathOf(0, impl.MaxInt), list(array(impl.MaxInt+1)))
	// Null is a value like any other.
	checkDeletePath(t, v, pathOf("null"), modelDelete(v, strKey("null")))
	for _, e := range v.Items {
		checkDeletePath(t, v, []impl.Key{e.Key}, modelDelete(v, e.Key))
		checkDeletePath(t, list(v), []impl.Key{{}, e.Key}, list(modelDelete(v, e.Key)))
	}
}

func TestDeletePathThatIsMissing(t *testing.T) {
	v := deepValue()
	for _, path := range [][]impl.Key{
		nil, pathOf(), pathOf("x"), pathOf("x", 2, 1), pathOf(0), pathOf("a", "c"), pathOf("a", "c", 0), pathOf("a", 1, 0), pathOf("a", 2, 2), pathOf("a", 2, 0, 0), pathOf("a", 2, 1, 5), pathOf("a", 2, 1, -5, 0), pathOf("a", 2, 1, "b", "b"), pathOf(5, 1, 2), pathOf(5, 1, 1, 1), pathOf("5"), pathOf("empty", 0), pathOf("empty", 3), zeros(300),
	} {
		checkDeletePath(t, v, path, v)
		checkDeletePath(t, v, append(path, strKey("no")), v)
		checkDeletePath(t, list(v), append(pathOf(0), append(path, strKey("no"))...), list(v))
	}
	for _, name := range append(closedKeys(), "null") {
		for _, k := range pathOf(0, 7, "", "a", name) {
			checkDeletePath(t, v, append(pathOf(name), k), v)
			checkDeletePath(t, v, append(pathOf(name), k, k), v)
		}
	}
	for _, w := range append(otherValues(), smallValues()...) {
		checkDeletePath(t, w, nil, w)
		checkDeletePath(t, list(w), pathOf(1), list(w))
	}
	for _, w := range otherValues() {
		for _, path := range [][]impl.Key{pathOf(0), pathOf("a"), pathOf("a", 0)} {
			checkDeletePath(t, w, path, w)
			checkDeletePath(t, list(w), append(pathOf(0), path...), list(w))
		}
	}
}

// TestDeletePathOfValuesThatAreNotValid has values that are changed as they are.
func TestDeletePathOfValuesThatAreNotValid(t *testing.T) {
	odd := impl.Value{Kind: impl.KindArray, Num: 3, Str: "extra", Next: -7, Items: []impl.Entry{entry(strKey("5"), list(impl.IntValue(1))), entry(intKey(0), number(99, -1))}}
	want := odd
	want.Items = []impl.Entry{entry(strKey("5"), array(1)), odd.Items[1]}
	checkDeletePath(t, odd, []impl.Key{strKey("5"), {}}, want)
	want.Items = odd.Items[:1]
	checkDeletePath(t, odd, zeros(1), want)
	heavy := list(nulls(500)...)
	checkDeletePath(t, heavy, pathOf(499), array(500, heavy.Items[:499]...))
	checkDeletePath(t, nested(500, impl.IntValue(1)), zeros(500), nested(499, array(1)))
	checkGetPath(t, nested(500, impl.IntValue(1)), zeros(500), impl.IntValue(1), true)
	for _, bad := range badValues() {
		for _, path := range [][]impl.Key{nil, zeros(1), zeros(2), pathOf(1), pathOf(5), pathOf(2), pathOf("a"), pathOf("b"), pathOf(1, 0), pathOf(1, 1), pathOf(190, 3), {strKey("5")}, {{Num: 5, Str: "5"}}} {
			checkDeletePath(t, bad, path, modelDeletePath(bad, path))
			end, ok := modelGetPath(bad, path)
			checkGetPath(t, bad, path, end, ok)
		}
	}
}

// TestEveryPathOfSmallValues has all paths of up to three keys out of some.
func TestEveryPathOfSmallValues(t *testing.T) {
	keys := []impl.Key{intKey(0), intKey(1), intKey(-1), strKey("a"), strKey("1")}
	paths := [][]impl.Key{{}}
	for from, length := 0, 1; length <= 3; length++ {
		to := len(paths)
		for _, path := range paths[from:to] {
			for _, k := range keys {
				paths = append(paths, append(slices.Clone(path), k))
			}
		}
		from = to
	}
	values := append(smallValues(), deepValue(), list(nulls(199)...), array(impl.MaxInt+1))
	for _, v := range smallValues()[:60] {
		values = append(values, array(3, entry(intKey(-1), v), entry(strKey("a"), list(impl.IntValue(3), v))))
	}
	seen := map[int]int{}
	for _, v := range values {
		for _, path := range paths {
			for _, x := range []impl.Value{impl.IntValue(6), list(impl.TextValue("x")), number(9, 0)} {
				for _, code := range checkPathAsModel(t, v, path, x) {
					seen[code]++
				}
			}
		}
	}
	for _, code := range []int{impl.ErrNone, impl.ErrKey, impl.ErrIndex, impl.ErrFull, impl.ErrMemory} {
		if seen[code] == 0 {
			t.Errorf("no call gives the code %d", code)
		}
	}
}

// pathsOf returns the paths to all that lies in v, and the empty path to v itself.
func pathsOf(v impl.Value) [][]impl.Key {
	paths := [][]impl.Key{{}}
	for _, e := range v.Items {
		for _, rest := range pathsOf(e.Val) {
			paths = append(paths, append([]impl.Key{e.Key}, rest...))
		}
	}
	return paths
}

// isAlong reports whether one of the paths begins with the other one.
func isAlong(a, b []impl.Key) bool {
	n := min(len(a), len(b))
	return slices.Equal(a[:n], b[:n])
}

// randomTree is a valid value with arrays in arrays.
func randomTree(random *rand.Rand, depth int) impl.Value {
	scalars := []impl.Value{impl.NullValue(), impl.NullValue(), impl.BoolValue(true), impl.IntValue(random.Intn(100)), impl.TextValue("t"), number(impl.KindObject, random.Intn(9))}
	if depth == 0 || random.Intn(4) == 0 {
		return scalars[random.Intn(len(scalars))]
	}
	v := impl.ArrayValue()
	for range random.Intn(5) {
		v = modelSet(v, randomKey(random), randomTree(random, depth-1))
	}
	v.Next += random.Intn(3)
	if random.Intn(4) == 0 {
		v.Next = impl.MaxInt + random.Intn(2)
	}
	return v
}

func randomKey(random *rand.Rand) impl.Key {
	return pathOf(0, 1, 2, -1, "a", "b", "")[random.Intn(7)]
}

// randomPath leads to what lies in v, or to what does not.
func randomPath(random *rand.Rand, v impl.Value) []impl.Key {
	paths := pathsOf(v)
	path := paths[random.Intn(len(paths))]
	for range random.Intn(3) {
		path = append(path, randomKey(random))
	}
	if len(path) > 0 && random.Intn(4) == 0 {
		path[random.Intn(len(path))] = randomKey(random)
	}
	return path
}

// checkOthersKept checks that all paths of v that do not lead along the given one find in changed what they find in v.
func checkOthersKept(t *testing.T, v, changed impl.Value, path []impl.Key) {
	t.Helper()
	for _, other := range pathsOf(v) {
		if !isAlong(path, other) {
			want, _ := impl.GetPath(v, other)
			checkGetPath(t, changed, other, want, true)
		}
	}
}

// checkNothingElse checks that all paths of changed that do not lead along the given one are paths of v.
func checkNothingElse(t *testing.T, v, changed impl.Value, path []impl.Key) {
	t.Helper()
	for _, other := range pathsOf(changed) {
		if _, ok := impl.GetPath(v, other); !ok && !isAlong(path, other) {
			t.Errorf("writing at %s gives %s something at %s", briefPath(path), brief(v), briefPath(other))
		}
	}
}

// TestWhatIsWrittenIsRead is the promise in its own words: many changes in a row, against the model.
func TestWhatIsWrittenIsRead(t *testing.T) {
	codes := map[int]int{}
	for seed := range 150 {
		random := rand.New(rand.NewSource(int64(seed)))
		v := randomTree(random, 4)
		for range 60 {
			path, push, x := randomPath(random, v), random.Intn(2) == 0, randomTree(random, random.Intn(4))
			if random.Intn(10) == 0 {
				x = list(nulls(random.Intn(200))...)
			}
			want, wantCode := modelSetPath(v, path, push, x)
			changed, code := impl.SetPath(v, path, push, x)
			checkSame(t, "the changed value", changed, want)
			codes[code]++
			if code != wantCode {
				t.Fatalf("SetPath(%s, %s, %v, %s) gives %d; want %d", brief(v), briefPath(path), push, brief(x), code, wantCode)
			}
			if code != impl.ErrNone {
				continue
			}
			checkValid(t, changed, true)
			at := path
			if push {
				before, _ := impl.GetPath(v, path)
				at = append(slices.Clone(path), intKey(before.Next))
			}
			checkGetPath(t, changed, at, x, true)
			checkOthersKept(t, v, changed, at)
			checkNothingElse(t, v, changed, at)
			// Written once more, it is the same.
			checkSetPath(t, changed, at, false, x, changed, impl.ErrNone)
			v = changed
			if len(v.Items) == 0 || random.Intn(15) == 0 {
				v = randomTree(random, 4)
			}
		}
	}
	if codes[impl.ErrNone] < 2000 || codes[impl.ErrIndex] < 500 || codes[impl.ErrFull] < 20 || codes[impl.ErrMemory] < 20 {
		t.Errorf("the codes are %v", codes)
	}
}

func TestWhatIsDeletedIsNotFound(t *testing.T) {
	deleted := 0
	for seed := range 1500 {
		random := rand.New(rand.NewSource(int64(seed)))
		v := randomTree(random, 4)
		for range 15 {
			path := randomPath(random, v)
			_, isThere := impl.GetPath(v, path)
			changed := impl.DeletePath(v, path)
			checkSame(t, "the value without an item", changed, modelDeletePath(v, path))
			if len(path) == 0 || !isThere {
				checkSame(t, "the same value", changed, v)
				continue
			}
			deleted++
			checkMissing(t, changed, path)
			checkMissing(t, changed, append(slices.Clone(path), intKey(0)))
			checkOthersKept(t, v, changed, path)
			checkNothingElse(t, v, changed, path)
			checkDeletePath(t, changed, path, changed)
			// The array before it keeps its Next.
			array, _ := impl.GetPath(v, path[:len(path)-1])
			rest, ok := impl.GetPath(changed, path[:len(path)-1])
			if !ok || rest.Next != array.Next || len(rest.Items) != len(array.Items)-1 {
				t.Errorf("DeletePath(%s, %s) leaves %s", brief(v), briefPath(path), brief(rest))
			}
			v = changed
		}
	}
	if deleted < 2000 {
		t.Errorf("only %d items are deleted", deleted)
	}
}

// TestPathsAreKeysInTurn holds paths against the functions of chapter 6.
func TestPathsAreKeysInTurn(t *testing.T) {
	x := list(impl.TextValue("x"))
	for _, v := range smallValues() {
		for _, k := range []impl.Key{intKey(0), intKey(1), intKey(2), intKey(-1), strKey("a"), strKey("b")} {
			one := []impl.Key{k}
			got, ok := impl.GetKey(v, k)
			checkGetPath(t, v, one, got, ok)
			checkGetPath(t, list(v), []impl.Key{{}, k}, got, ok)
			checkDeletePath(t, v, one, impl.DeleteKey(v, k))
			checkDeletePath(t, list(v), []impl.Key{{}, k}, list(impl.DeleteKey(v, k)))
			if v.Kind != impl.KindArray || !impl.IsValue(v) {
				continue
			}
			set, _ := impl.SetKey(v, k, x)
			checkSetPath(t, v, one, false, x, set, impl.ErrNone)
			checkSetPath(t, list(v), []impl.Key{{}, k}, false, x, list(set), impl.ErrNone)
		}
		if v.Kind == impl.KindArray && impl.IsValue(v) {
			appended, _ := impl.AppendItem(v, x)
			checkSetPath(t, v, nil, true, x, appended, impl.ErrNone)
			checkSetPath(t, list(v), zeros(1), true, x, list(appended), impl.ErrNone)
		}
	}
}

// pathCalls is what all functions of this chapter make of two values and a path.
func pathCalls(v impl.Value, path []impl.Key, x impl.Value) []impl.Value {
	got, _ := impl.GetPath(v, path)
	set, _ := impl.SetPath(v, path, false, x)
	pushed, _ := impl.SetPath(v, path, true, x)
	return []impl.Value{got, set, pushed, impl.DeletePath(v, path)}
}

// sharingPaths has paths with texts and spare keys of their own.
func sharingPaths() [][]impl.Key {
	spare := append(pathOf(0), strKey("spare"), strKey("spare"))
	paths := [][]impl.Key{nil, spare[:1], pathOf("a"), pathOf("key"), pathOf("new"), pathOf(0, "new", "path"), pathOf(0, 0), pathOf(1, 0), pathOf(0, 1), pathOf(0, "key"), pathOf(2, "x"), pathOf(1, 1, "key"), pathOf(9, "key", 5), pathOf("a", 0, 1), zeros(150)}
	for _, path := range paths {
		for i := range path {
			path[i].Str = strings.Clone(path[i].Str)
		}
	}
	return paths
}

func TestResultsOfPathsShareNoMemory(t *testing.T) {
	values := sharingOperands()
	for _, v := range values {
		for _, x := range append(values, v) {
			for _, path := range sharingPaths() {
				given, got := newMemory(), newMemory()
				given.addValue(v)
				given.addValue(x)
				for _, k := range path {
					given.addText(k.Str)
				}
				seen := 0
				for _, w := range pathCalls(v, path, x) {
					seen += got.addValue(w)
				}
				if got.meets(given) {
					t.Fatalf("a result of %s, %s and %s shares memory with them", brief(v), briefPath(path), brief(x))
				}
				if seen != len(got.items) {
					t.Fatalf("two lists of results of %s, %s and %s are in the same memory", brief(v), briefPath(path), brief(x))
				}
			}
		}
	}
}

// TestTextsOfWrittenPathsAreTheirOwn has a path whose keys, and a value that, share one text.
func TestTextsOfWrittenPathsAreTheirOwn(t *testing.T) {
	s := strings.Clone("one text")
	x := impl.Value{Kind: impl.KindText, Str: s}
	v := array(0, entry(strKey(s), array(0, entry(strKey(s), x))))
	for _, path := range [][]impl.Key{pathOf(s), pathOf(s, s), pathOf(s, s+"!", s), pathOf(s, "other", s)} {
		for _, w := range pathCalls(v, path, x) {
			texts := textsOf(w)
			for i, text := range texts {
				for _, other := range texts[:i] {
					if lieTogether(text, other) {
						t.Errorf("two texts of %s lie together", brief(w))
					}
				}
				if lieTogether(text, s) {
					t.Errorf("a text of %s is that of an argument", brief(w))
				}
			}
		}
	}
}

func TestPathsLeaveTheirArguments(t *testing.T) {
	for i := range sharingOperands() {
		for j := range sharingOperands() {
			for at := range sharingPaths() {
				v, x, path := sharingOperands()[i], sharingOperands()[j], sharingPaths()[at]
				vBefore, xBefore, pathBefore := withSpare(v), withSpare(x), slices.Clone(path[:cap(path)])
				for _, w := range pathCalls(v, path, x) {
					spoil(w)
					_ = append(w.Items, entry(strKey("more"), impl.NullValue()))
				}
				if !reflect.DeepEqual(withSpare(v), vBefore) || !reflect.DeepEqual(withSpare(x), xBefore) || !slices.Equal(path[:cap(path)], pathBefore) {
					t.Fatalf("the call with the values %d and %d and the path %d, or a change of its results, changes them", i, j, at)
				}
			}
		}
	}
}

func TestChangedArgumentsDoNotChangePaths(t *testing.T) {
	for i := range sharingOperands() {
		for j := range sharingOperands() {
			for at := range sharingPaths() {
				v, x, path := sharingOperands()[i], sharingOperands()[j], sharingPaths()[at]
				results := pathCalls(v, path, x)
				spoil(v)
				spoil(x)
				for k := range path {
					path[k] = strKey("spoilt")
				}
				want := pathCalls(sharingOperands()[i], sharingPaths()[at], sharingOperands()[j])
				if !slices.EqualFunc(results, want, isSame) {
					t.Fatalf("results of the values %d and %d and the path %d change with them", i, j, at)
				}
			}
		}
	}
}

// TestWritingIntoSharedItems writes into one of two arrays that share their items: the other one stays.
func TestWritingIntoSharedItems(t *testing.T) {
	x := impl.IntValue(9)
	inner := list(impl.IntValue(1), list(impl.IntValue(2)))
	v := list(inner, inner, inner.Items[1].Val)
	checkWrites(t, v, pathOf(0, 1, 0), false, x, list(list(impl.IntValue(1), list(x)), inner, inner.Items[1].Val))
	checkWrites(t, v, pathOf(1, 1), true, x, list(inner, list(impl.IntValue(1), list(impl.IntValue(2), x)), inner.Items[1].Val))
	checkDeletePath(t, v, pathOf(1, 1, 0), list(inner, list(impl.IntValue(1), array(1)), inner.Items[1].Val))
	// A value is written into itself.
	checkWrites(t, v, pathOf(0), false, v, list(v, inner, inner.Items[1].Val))
	checkWrites(t, v, pathOf(0, 1), true, v, list(list(impl.IntValue(1), list(impl.IntValue(2), v)), inner, inner.Items[1].Val))
	checkWrites(t, v, pathOf(0, 1), false, inner, list(list(impl.IntValue(1), inner), inner, inner.Items[1].Val))
	checkSame(t, "v", v, list(inner, inner, list(impl.IntValue(2))))
	checkSame(t, "inner", inner, list(impl.IntValue(1), list(impl.IntValue(2))))
}

// TestPathsGoDeeperThanCalls would run out of stack if a function called itself for each key of a path.
func TestPathsGoDeeperThanCalls(t *testing.T) {
	defer debug.SetMaxStack(debug.SetMaxStack(1 << 20))
	const depth = 200000
	x := impl.IntValue(1)
	deep := nested(depth, x)
	got, ok := impl.GetPath(deep, zeros(depth))
	if !ok || got.Num != 1 {
		t.Errorf("%s, %v", brief(got), ok)
	}
	got, ok = impl.GetPath(deep, zeros(depth-1))
	checkSame(t, "the last array", got, list(x))
	checkMissing(t, deep, zeros(depth+1))
	if got, ok = impl.GetPath(deep, zeros(10)); !ok {
		t.Error("nothing is found")
	}
	checkIdentical(t, got, nested(depth-10, x), true)
	checkIdentical(t, impl.DeletePath(deep, zeros(depth)), nested(depth-1, array(1)), true)
	checkIdentical(t, impl.DeletePath(deep, zeros(depth/2)), nested(depth/2-1, array(1)), true)
	checkIdentical(t, impl.DeletePath(deep, zeros(depth+1)), deep, true)
	for _, push := range []bool{false, true} {
		got, code := impl.SetPath(deep, zeros(depth), push, x)
		checkIdentical(t, got, deep, true)
		if code != impl.ErrKey {
			t.Error(code)
		}
	}
}

func TestLongPaths(t *testing.T) {
	const count = 3000000
	path, x := zeros(count), impl.IntValue(1)
	for _, v := range []impl.Value{impl.NullValue(), impl.ArrayValue(), nested(199, impl.NullValue()), list(impl.NullValue(), x)} {
		checkRefusedEither(t, v, path, x, impl.ErrMemory)
		checkMissing(t, v, path)
		checkDeletePath(t, v, path, v)
	}
	for _, v := range []impl.Value{x, list(x), nested(199, x)} {
		checkRefusedEither(t, v, path, x, impl.ErrIndex)
		checkMissing(t, v, path)
		checkDeletePath(t, v, path, v)
	}
	path[count-1] = intKey(impl.MaxInt + 1)
	checkRefusedEither(t, impl.NullValue(), path, x, impl.ErrKey)
	checkRefusedEither(t, x, path, x, impl.ErrKey)
}

// TestPathsOfVastValues has values that cannot be gone through: paths lead into them all the same.
func TestPathsOfVastValues(t *testing.T) {
	before := vastValues()
	for i, v := range vastValues() {
		for _, path := range [][]impl.Key{nil, pathOf(1, 0, 1, 0), zeros(3000), pathOf(0, 0, 7)} {
			want, wantOK := modelGetPath(v, path)
			got, ok := impl.GetPath(v, path)
			if ok != wantOK {
				t.Errorf("GetPath(%s, %s) reports %v", brief(v), briefPath(path), ok)
			}
			checkIdentical(t, got, want, true)
			deleted := impl.DeletePath(v, path)
			checkIdentical(t, deleted, modelDeletePath(v, path), true)
			set, code := impl.SetPath(v, path, true, v)
			checkIdentical(t, set, v, true)
			same, otherCode := impl.SetPath(list(impl.IntValue(2)), path, false, v)
			checkSame(t, "SetPath with a value that is not valid", same, list(impl.IntValue(2)))
			if code != impl.ErrKey || otherCode != impl.ErrKey {
				t.Error(code, otherCode)
			}
			for _, w := range []impl.Value{got, deleted, set} {
				clear(w.Items)
			}
		}
		checkIdentical(t, v, before[i], true)
	}
	wide := list(nulls(100000)...)
	checkDeletePath(t, list(wide), pathOf(0, 99999), list(array(100000, wide.Items[:99999]...)))
	checkGetPath(t, list(wide), pathOf(0, 99999), impl.NullValue(), true)
}

func TestPathsAreRepeatable(t *testing.T) {
	x := impl.TextValue("x")
	for _, v := range sharingOperands() {
		for _, path := range sharingPaths() {
			first := pathCalls(v, path, x)
			pathCalls(list(v, v), pathOf("other", 1), v)
			if !slices.EqualFunc(pathCalls(v, path, x), first, isSame) {
				t.Errorf("results of %s and %s are others the second time", brief(v), briefPath(path))
			}
		}
	}
}
