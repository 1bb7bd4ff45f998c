package tests

import (
	"fmt"
	"math"
	"math/rand"
	"reflect"
	"regexp"
	"runtime/debug"
	"slices"
	"strconv"
	"strings"
	"testing"
	"unsafe"

	"loop.example/g03011/impl"
)

// Promise 11: plain values are read from their text.

// serialized is a value and the text that the document gives to it.
type serialized struct {
	v impl.Value
	s string
}

// writtenScalars has every kind of scalar, with the least and the greatest of them, and strings that look like parts of a text.
func writtenScalars() []serialized {
	l := []serialized{
		{impl.NullValue(), "N;"}, {impl.BoolValue(false), "b:0;"}, {impl.BoolValue(true), "b:1;"},
		{impl.IntValue(0), "i:0;"}, {impl.IntValue(1), "i:1;"}, {impl.IntValue(-1), "i:-1;"}, {impl.IntValue(7), "i:7;"}, {impl.IntValue(10), "i:10;"}, {impl.IntValue(-42), "i:-42;"}, {impl.IntValue(100), "i:100;"},
		{impl.IntValue(999999999), "i:999999999;"}, {impl.IntValue(-999999999), "i:-999999999;"}, {impl.IntValue(impl.MaxInt), "i:1000000000;"}, {impl.IntValue(-impl.MaxInt), "i:-1000000000;"},
		{impl.TextValue(""), "s:0:;"}, {impl.TextValue("x"), "s:1:x;"}, {impl.TextValue("a;b"), "s:3:a;b;"}, {impl.TextValue("hello, world"), "s:12:hello, world;"},
		{impl.TextValue("5"), "s:1:5;"}, {impl.TextValue("-1000000000"), "s:11:-1000000000;"}, {impl.TextValue("05"), "s:2:05;"}, {impl.TextValue("\xc3\xa9"), "s:2:\xc3\xa9;"}, {impl.TextValue("\xc3"), "s:1:\xc3;"},
		{impl.TextValue(strings.Repeat("t", 399)), "s:399:" + strings.Repeat("t", 399) + ";"},
		{impl.TextValue(strings.Repeat("t", 400)), "s:400:" + strings.Repeat("t", 400) + ";"}, {impl.TextValue(strings.Repeat("\xff", 400)), "s:400:" + strings.Repeat("\xff", 400) + ";"}, {impl.TextValue(strings.Repeat(";", 400)), "s:400:" + strings.Repeat(";", 400) + ";"},
	}
	for _, s := range []string{";", ":", "\"", "{", "}", "\x00", "\n", "\r", "\\", "'", "\x7f", "\x80", "\xff", "N", "0", "-", " "} {
		l = append(l, serialized{impl.TextValue(s), "s:1:" + s + ";"}, serialized{impl.TextValue(s + s), "s:2:" + s + s + ";"})
	}
	for _, s := range []string{"N;", "b:1;", "i:5;", "s:1:x;", "a:0:0{}", "a:1:1{i:0;N;}", ";}", "1:x;", ":x;", "x;s:1:y;", "{i:0;", ";;;;;;;;", "::::::::", "}}}}}}}}"} {
		l = append(l, serialized{impl.TextValue(s), fmt.Sprintf("s:%d:%s;", len(s), s)})
	}
	return l
}

func writtenArrays() []serialized {
	null, x, most := impl.NullValue(), impl.TextValue("x"), impl.MaxInt
	longKey := strings.Repeat("k", 400)
	return []serialized{
		// The chapter's own example.
		{array(6, entry(intKey(5), x)), "a:1:6{i:5;s:1:x;}"},
		{array(0), "a:0:0{}"}, {array(1), "a:0:1{}"}, {array(7), "a:0:7{}"}, {array(most), "a:0:1000000000{}"}, {array(most + 1), "a:0:1000000001{}"},
		{list(null), "a:1:1{i:0;N;}"}, {list(impl.BoolValue(true), impl.BoolValue(false)), "a:2:2{i:0;b:1;i:1;b:0;}"}, {list(impl.IntValue(-7), x, null), "a:3:3{i:0;i:-7;i:1;s:1:x;i:2;N;}"},
		{array(1, entry(intKey(0), impl.IntValue(7)), entry(strKey("n"), impl.TextValue("a;b"))), "a:2:1{i:0;i:7;s:1:n;s:3:a;b;}"},
		// Items stand in their order, not in that of their keys.
		{array(3, entry(strKey("b"), null), entry(intKey(2), x), entry(strKey("a"), null), entry(intKey(0), x)), "a:4:3{s:1:b;N;i:2;s:1:x;s:1:a;N;i:0;s:1:x;}"},
		{array(0, entry(intKey(-3), null)), "a:1:0{i:-3;N;}"}, {array(0, entry(intKey(-most), null)), "a:1:0{i:-1000000000;N;}"}, {array(0, entry(intKey(-1), x), entry(intKey(-2), null)), "a:2:0{i:-1;s:1:x;i:-2;N;}"},
		{array(6, entry(intKey(-5), null), entry(intKey(5), null), entry(intKey(0), null)), "a:3:6{i:-5;N;i:5;N;i:0;N;}"},
		{array(most, entry(intKey(most-1), null)), "a:1:1000000000{i:999999999;N;}"}, {array(most+1, entry(intKey(most), null)), "a:1:1000000001{i:1000000000;N;}"}, {array(most+1, entry(intKey(most), null), entry(intKey(-most), x)), "a:2:1000000001{i:1000000000;N;i:-1000000000;s:1:x;}"},
		// The Next is greater than the keys ask.
		{array(2, entry(intKey(0), null)), "a:1:2{i:0;N;}"}, {array(50, entry(intKey(5), null)), "a:1:50{i:5;N;}"}, {array(3, entry(intKey(-5), null)), "a:1:3{i:-5;N;}"}, {array(9, entry(strKey("a"), null)), "a:1:9{s:1:a;N;}"}, {array(most+1, entry(intKey(0), null)), "a:1:1000000001{i:0;N;}"},
		{array(0, entry(strKey("a"), null)), "a:1:0{s:1:a;N;}"}, {array(0, entry(strKey(""), null)), "a:1:0{s:0:;N;}"}, {array(0, entry(strKey("05"), null), entry(strKey("-0"), x)), "a:2:0{s:2:05;N;s:2:-0;s:1:x;}"}, {array(0, entry(strKey("+5"), null)), "a:1:0{s:2:+5;N;}"}, {array(0, entry(strKey(" 5"), null)), "a:1:0{s:2: 5;N;}"},
		{array(0, entry(strKey("1000000001"), null), entry(strKey("-1000000001"), null)), "a:2:0{s:10:1000000001;N;s:11:-1000000001;N;}"}, {array(6, entry(intKey(5), null), entry(strKey("5 "), null)), "a:2:6{i:5;N;s:2:5 ;N;}"},
		{array(0, entry(strKey(";"), null), entry(strKey("}"), null), entry(strKey(":"), null), entry(strKey("{"), null), entry(strKey("\""), null)), "a:5:0{s:1:;;N;s:1:};N;s:1::;N;s:1:{;N;s:1:\";N;}"},
		{array(0, entry(strKey("i:5;"), x), entry(strKey("a:0:0{}"), x)), "a:2:0{s:4:i:5;;s:1:x;s:7:a:0:0{};s:1:x;}"}, {array(0, entry(strKey("\x00\xff"), null)), "a:1:0{s:2:\x00\xff;N;}"}, {array(0, entry(strKey(longKey), null)), "a:1:0{s:400:" + longKey + ";N;}"},
		{list(array(0)), "a:1:1{i:0;a:0:0{}}"}, {list(list(null), array(0), list(x)), "a:3:3{i:0;a:1:1{i:0;N;}i:1;a:0:0{}i:2;a:1:1{i:0;s:1:x;}}"}, {nested(4, impl.IntValue(1)), "a:1:1{i:0;a:1:1{i:0;a:1:1{i:0;a:1:1{i:0;i:1;}}}}"},
		{array(4, entry(strKey("in"), array(9, entry(strKey("in"), array(8)), entry(intKey(-1), null))), entry(intKey(3), list(x))), "a:2:4{s:2:in;a:2:9{s:2:in;a:0:8{}i:-1;N;}i:3;a:1:1{i:0;s:1:x;}}"},
	}
}

func writtenValues() []serialized {
	return append(writtenScalars(), writtenArrays()...)
}

// serialForm writes any value as if it were valid and plain.
func serialForm(v impl.Value) string {
	switch v.Kind {
	case 0:
		return "N;"
	case 1:
		return fmt.Sprintf("b:%d;", v.Num)
	case 2:
		return fmt.Sprintf("i:%d;", v.Num)
	case 3:
		return fmt.Sprintf("s:%d:%s;", len(v.Str), v.Str)
	}
	var items strings.Builder
	for _, e := range v.Items {
		key := fmt.Sprintf("i:%d;", e.Key.Num)
		if e.Key.Text {
			key = fmt.Sprintf("s:%d:%s;", len(e.Key.Str), e.Key.Str)
		}
		items.WriteString(key + serialForm(e.Val))
	}
	return fmt.Sprintf("a:%d:%d{%s}", len(v.Items), v.Next, items.String())
}

func modelSerialize(v impl.Value) (string, bool) {
	if !modelIsValue(v) || !modelIsPlain(v) {
		return "", false
	}
	return serialForm(v), true
}

// serialHead is the beginning of a value, with the numbers that count for what is read. The number of items is not among them.
var serialHead = regexp.MustCompile(`^(?:N;|[bi]:([-+]?\d+);|s:(\d+):|a:\d+:(\d+)\{)`)

// modelRead reads more than there is: whether s is right is seen when its value is written.
func modelRead(s string) (impl.Value, string, bool) {
	head := serialHead.FindStringSubmatch(s)
	if head == nil {
		return impl.Value{}, "", false
	}
	letter, rest := s[0], s[len(head[0]):]
	n, err := strconv.Atoi(head[1] + head[2] + head[3])
	switch {
	case letter == 'N':
		return impl.Value{}, rest, true
	case err != nil:
		return impl.Value{}, "", false
	case letter == 'b' || letter == 'i':
		return number(1+strings.IndexByte("bi", letter), n), rest, true
	case letter == 's' && n < len(rest):
		return impl.Value{Kind: 3, Str: rest[:n]}, rest[n+1:], true
	case letter == 's':
		return impl.Value{}, "", false
	}
	v := array(n)
	for !strings.HasPrefix(rest, "}") {
		k, behind, isKey := modelRead(rest)
		x, end, isValue := modelRead(behind)
		if !isKey || !isValue {
			return impl.Value{}, "", false
		}
		v.Items = append(v.Items, entry(impl.Key{Text: k.Kind == 3, Num: k.Num, Str: k.Str}, x))
		rest = end
	}
	return v, rest[1:], true
}

func modelUnserialize(s string) (impl.Value, bool) {
	v, rest, isRead := modelRead(s)
	if !isRead || rest != "" {
		return impl.Value{}, false
	}
	if back, isWritten := modelSerialize(v); !isWritten || back != s {
		return impl.Value{}, false
	}
	return v, true
}

func checkSerialize(t *testing.T, v impl.Value, want string, wantOK bool) {
	t.Helper()
	if got, ok := impl.Serialize(v); got != want || ok != wantOK {
		t.Errorf("Serialize(%s) = %s, %v; want %s, %v", brief(v), cut(got), ok, cut(want), wantOK)
	}
}

func checkUnserialize(t *testing.T, s string, want impl.Value, wantOK bool) {
	t.Helper()
	if got, ok := impl.Unserialize(s); !isSame(got, want) || ok != wantOK {
		t.Errorf("Unserialize(%s) = %s, %v; want %s, %v", cut(s), brief(got), ok, brief(want), wantOK)
	}
}

// checkWritten checks that s is the text of v, there and back.
func checkWritten(t *testing.T, v impl.Value, s string) {
	t.Helper()
	checkSerialize(t, v, s, true)
	checkUnserialize(t, s, v, true)
	back, _ := impl.Unserialize(s)
	checkIdentical(t, back, v, true)
}

// checkNoText also puts v into arrays that would have a text without it.
func checkNoText(t *testing.T, v impl.Value) {
	t.Helper()
	null := impl.NullValue()
	for _, around := range []impl.Value{v, list(v), list(null, v, null), array(0, entry(strKey("a"), null), entry(strKey("b"), v)), nested(30, list(null, v)), list(nested(3, v), null)} {
		checkSerialize(t, around, "", false)
	}
}

func checkNotRead(t *testing.T, s string) {
	t.Helper()
	checkUnserialize(t, s, impl.Value{}, false)
}

// checkNotReadWithin also puts s into arrays, as a value.
func checkNotReadWithin(t *testing.T, s string) {
	t.Helper()
	for _, around := range []string{s, "a:1:1{i:0;" + s + "}", "a:2:1{i:0;N;s:1:a;" + s + "}", "a:2:1{s:1:a;" + s + "i:0;N;}", "a:1:1{i:0;a:1:1{i:0;" + s + "}}"} {
		checkNotRead(t, around)
	}
}

// checkTextAsModelSerial reports whether s is the text of a value. Then it is what is written for it.
func checkTextAsModelSerial(t *testing.T, s string) bool {
	t.Helper()
	want, wantOK := modelUnserialize(s)
	checkUnserialize(t, s, want, wantOK)
	if wantOK {
		got, _ := impl.Unserialize(s)
		checkSerialize(t, got, s, true)
		checkValid(t, got, true)
		checkPlain(t, got, true)
	}
	return wantOK
}

func TestWrittenValues(t *testing.T) {
	for _, c := range writtenValues() {
		checkWritten(t, c.v, c.s)
		if back, isBack := modelUnserialize(c.s); !isBack || !isSame(back, c.v) {
			t.Errorf("the model reads %s as %s", cut(c.s), brief(back))
		}
		// What stands in an array is written as it is alone.
		checkWritten(t, list(c.v), "a:1:1{i:0;"+c.s+"}")
		checkWritten(t, array(5, entry(strKey("a;"), c.v), entry(intKey(-1), c.v)), "a:2:5{s:2:a;;"+c.s+"i:-1;"+c.s+"}")
	}
}

func TestNilAndEmptyItems(t *testing.T) {
	for _, items := range [][]impl.Entry{nil, {}, make([]impl.Entry, 0, 4), list(impl.IntValue(1)).Items[:0]} {
		checkWritten(t, impl.Value{Kind: impl.KindArray, Next: 3, Items: items}, "a:0:3{}")
		for kind, s := range []string{"N;", "b:0;", "i:0;", "s:0:;"} {
			checkWritten(t, impl.Value{Kind: kind, Items: items}, s)
		}
	}
}

// TestEveryByteOfStrings has every byte, alone and beside others, in a string and in a key.
func TestEveryByteOfStrings(t *testing.T) {
	for c := range 256 {
		for _, s := range []string{string([]byte{byte(c)}), string([]byte{byte(c), ';'}), string([]byte{':', byte(c), '}'}), strings.Repeat(string([]byte{byte(c)}), 400)} {
			form := fmt.Sprintf("s:%d:%s;", len(s), s)
			checkWritten(t, impl.TextValue(s), form)
			if modelIsKey(strKey(s)) {
				checkWritten(t, array(0, entry(strKey(s), impl.TextValue(s))), "a:1:0{"+form+form+"}")
			} else {
				checkNotRead(t, "a:1:0{"+form+form+"}")
			}
		}
	}
	checkWritten(t, impl.TextValue(allBytes()), "s:256:"+allBytes()+";")
	checkWritten(t, array(0, entry(strKey(allBytes()), impl.NullValue())), "a:1:0{s:256:"+allBytes()+";N;}")
}

func TestLengthsOfStrings(t *testing.T) {
	for size := range 406 {
		s := strings.Repeat("x;", 203)[:size]
		if size > impl.MaxText {
			checkNoText(t, impl.TextValue(s))
			checkNoText(t, array(0, entry(strKey(s), impl.NullValue())))
		}
		for _, stated := range []int{0, size - 2, size - 1, size, size + 1, size + 2, 10 * size, size + 256, size + 1<<32, -size, -1} {
			text := fmt.Sprintf("s:%d:%s;", stated, s)
			isRight := stated == size && size <= impl.MaxText
			// A lower length may end at a semicolon within the text, but something is left behind it.
			checkUnserialize(t, text, map[bool]impl.Value{true: impl.TextValue(s)}[isRight], isRight)
			key := map[bool]impl.Value{true: array(0, entry(strKey(s), impl.NullValue()))}
			checkUnserialize(t, "a:1:0{"+text+"N;}", key[isRight], isRight)
		}
	}
	for _, s := range []string{strings.Repeat("t", 401), strings.Repeat("\xc3\xa9", 201), strings.Repeat("t", 4000), strings.Repeat("t", 1<<20)} {
		checkNoText(t, impl.TextValue(s))
		checkNotReadWithin(t, serialForm(impl.TextValue(s)))
		checkNotRead(t, "a:1:0{"+serialForm(impl.TextValue(s))+"N;}")
	}
}

// TestWrongLengths has lengths in every form that no number is written in.
func TestWrongLengths(t *testing.T) {
	for _, length := range []string{
		"", "0", "1", "3", "4", "20", "-2", "-0", "+2", "02", "002", " 2", "2 ", "2.0", "2e0", "0x2", "2_", "x", "-", "--2", "\x002", "\xd9\xa2", "\xef\xbc\x92",
		"258", "65538", "4294967298", "18446744073709551618", "-4294967294", "1000000000", "1000000000000", "1000000000001", "9223372036854775807", "9223372036854775808", "-9223372036854775808", "99999999999999999999", strings.Repeat("9", 1000), strings.Repeat("0", 1000) + "2",
	} {
		checkNotReadWithin(t, "s:"+length+":ab;")
		checkNotReadWithin(t, "a:1:0{s:"+length+":ab;N;}")
	}
	for _, s := range []string{"s:2ab;", "s:2;ab;", "s2:ab;", "s:2:ab", "s:2:ab:", "s:2:ab}", "s:2:ab,", "s:2:abc;", "s:2:a;", "s:2:ab;;", "s:2::ab;", "s:2:\"ab\";", "s:2:'ab';", "s::2:ab;", "s:0:", "s:0;", "s:0::;", "s:1:;", "s:;", "s::;", "s:", "s", "s;", "S:2:ab;", "s:2:\xc3\xa9x;", "s:1:\xc3\xa9;"} {
		checkNotReadWithin(t, s)
		checkNotReadWithin(t, "a:1:0{"+s+"N;}")
	}
}

// integerForms has ways to write integers, and whether each is the right one.
func integerForms() map[string]bool {
	forms := map[string]bool{}
	for _, n := range edgeNumbers() {
		forms[strconv.Itoa(n)] = -1000000000 <= n && n <= 1000000000
		forms["0"+strconv.Itoa(n)] = false
		forms["+"+strconv.Itoa(n)] = false
		forms[strconv.Itoa(n)+"0000000000"] = false
	}
	for _, s := range []string{
		"", "-", "+", "--1", "-+1", "-0", "00", "-00", "05", "-05", "+5", "+0", " 5", "5 ", "\t5", "5\n", "5.0", "5.", ".5", "5e3", "0x5", "0b1", "0o7", "1_000", "1,000", "a", "5a", "N", "true", "\x005", "5\x00", "\xd9\xa5", "\xef\xbc\x95", "\u22125",
		"1000000001", "-1000000001", "2147483648", "4294967296", "4294967301", "-4294967291", "18446744073709551616", "18446744073709551621", "9223372036854775808", "-9223372036854775809", "99999999999999999999", strings.Repeat("1", 400), strings.Repeat("0", 400), "-" + strings.Repeat("9", 4000),
	} {
		forms[s] = false
	}
	return forms
}

func TestFormsOfIntegers(t *testing.T) {
	for form, isRight := range integerForms() {
		if !isRight {
			checkNotReadWithin(t, "i:"+form+";")
			checkNotReadWithin(t, "a:1:1000000001{i:"+form+";N;}")
			continue
		}
		n, _ := strconv.Atoi(form)
		checkWritten(t, impl.IntValue(n), "i:"+form+";")
		checkWritten(t, array(1000000001, entry(intKey(n), impl.IntValue(n))), "a:1:1000000001{i:"+form+";i:"+form+";}")
	}
	for n := -1200; n <= 1200; n++ {
		checkWritten(t, impl.IntValue(n), "i:"+strconv.Itoa(n)+";")
	}
	for _, s := range []string{"i", "i:", "i;", "i:;", "i5;", "i:5", "i:5:", "i:5}", "i::5;", "i:5;;", "I:5;", "i:-;", "i:5;;i:5;", "i:\"5\";", ":5;", "5;", "5"} {
		checkNotReadWithin(t, s)
		checkNotReadWithin(t, "a:1:9{"+s+"N;}")
	}
}

func TestFormsOfBooleansAndNull(t *testing.T) {
	for _, form := range []string{"", "2", "3", "9", "-1", "-0", "+1", "+0", "00", "01", "10", "11", "256", "257", "4294967296", "4294967297", "t", "f", "true", "false", "T", "N", " 1", "1 ", "\x00", "\x01"} {
		checkNotReadWithin(t, "b:"+form+";")
	}
	for _, s := range []string{"b", "b:", "b;", "b:0", "b:1", "b1;", "b0;", "b::1;", "b:1:", "b:1}", "b:1;;", "B:1;", "B:0;", "N", "n;", "N:;", "N:0;", "NN;", "N;;", ";", "N}", "null", "null;", " N;", "N ;", "N; "} {
		checkNotReadWithin(t, s)
		checkNotReadWithin(t, "a:1:9{"+s+"N;}")
	}
}

// TestUnknownLetters has every byte in the place of a letter.
func TestUnknownLetters(t *testing.T) {
	for c := range 256 {
		letter := string([]byte{byte(c)})
		for _, rest := range []string{"", ";", ":", ":0;", ":1;", ":5;", ":0:;", ":1:x;", ":0:0{}", ":1:1{i:0;N;}", ":0:{}", ":0{}", ":1:0:{}", ":"} {
			checkTextAsModelSerial(t, letter+rest)
			checkTextAsModelSerial(t, "a:1:1{i:0;"+letter+rest+"}")
			checkTextAsModelSerial(t, "a:1:9{"+letter+rest+"N;}")
			if !strings.Contains("Nbisa", letter) {
				checkNotReadWithin(t, letter+rest)
			}
		}
	}
	for _, s := range []string{"d:0.5;", "O:0:0{}", "o:1;", "h:1;", "c:1;", "g:1;", "f:1;", "r:1;", "R:1;", "C:1:1{}", "E:1:x;", "handle", "object"} {
		checkNotReadWithin(t, s)
	}
}

func TestTextsThatEndTooEarly(t *testing.T) {
	checkNotRead(t, "")
	for _, c := range writtenValues() {
		for _, s := range []string{c.s, "a:1:1{i:0;" + c.s + "}"} {
			for end := range s {
				checkNotRead(t, s[:end])
			}
			for start := range s {
				checkTextAsModelSerial(t, s[start:])
			}
		}
	}
}

func TestTextsWithSomethingBehind(t *testing.T) {
	for _, c := range writtenValues() {
		for b := range 256 {
			checkNotRead(t, c.s+string([]byte{byte(b)}))
		}
		for _, more := range []string{"N;", c.s, ";;", "}}", "\x00\x00", " \n", "i:1;x"} {
			checkNotRead(t, c.s+more)
			checkNotRead(t, "a:1:1{i:0;"+c.s+more+"}")
			checkNotRead(t, "a:1:1{i:0;"+c.s+"}"+more)
		}
		for _, before := range []string{" ", ";", "\x00", "\xef\xbb\xbf", "x", "}"} {
			checkNotRead(t, before+c.s)
		}
	}
}

// TestNumbersOfItems states other numbers of items than there are.
func TestNumbersOfItems(t *testing.T) {
	for count := range 12 {
		items := strings.TrimSuffix(strings.TrimPrefix(serialForm(list(nulls(count)...)), fmt.Sprintf("a:%d:%d{", count, count)), "}")
		for stated := -3; stated < 300; stated++ {
			s := fmt.Sprintf("a:%d:%d{%s}", stated, count, items)
			if stated == count {
				checkWritten(t, list(nulls(count)...), s)
			} else {
				checkNotReadWithin(t, s)
			}
		}
	}
	for _, count := range []string{
		"", "00", "01", "-1", "-0", "+1", " 1", "1 ", "1.0", "x", "0x1", "257", "65537", "4294967297", "18446744073709551617", "1000000000", "1000000000000", "1000000000001", "9223372036854775807", "9223372036854775808", "-9223372036854775808", strings.Repeat("9", 1000), strings.Repeat("0", 1000) + "1",
	} {
		checkNotReadWithin(t, "a:"+count+":1{i:0;N;}")
		checkNotReadWithin(t, "a:"+count+":0{}")
	}
}

func TestFormsOfArrays(t *testing.T) {
	for _, s := range []string{
		"a", "a:", "a;", "a:0", "a:0:", "a:0:0", "a:0:0{", "a:0:0}", "a:0:0;", "a:0:0:{}", "a:0:0{};", "a:0:0{}}", "a:0:0{{}", "a:0:0[]", "a:0:0()", "a:0{}", "a:{}", "a::{}", "a:0::{}", "a:0:{}", "a::0{}", "a0:0{}", "a:0;0{}", "A:0:0{}", "a:0:0 {}", "a:0:0{ }", "a:0:0{\n}",
		"a:1:1{}", "a:1:1{i:0;}", "a:1:1{N;}", "a:1:1{i:0;N;", "a:1:1{i:0;N}", "a:1:1{i:0N;}", "a:1:1{i:0;N;;}", "a:1:1{;i:0;N;}", "a:1:1{i:0;;N;}", "a:1:1{i:0:N;}", "a:1:1{0;N;}", "a:1:1{0:N;}", "a:1:1i:0;N;}", "a:1:1{i:0;N;]", "a:1:1{i:0;N;i:1;N;}", "a:2:2{i:0;N;i:1;}", "a:2:2{i:0;N;}", "a:2:2{i:0;N;,i:1;N;}", "a:2:2{N;N;}",
		"a:0:0{i:0;N;}", "a:0:1{i:0;N;}", "a:1:1{i:0;N;}}", "a:1:1{i:0;a:0:0{}", "a:1:1{i:0;a:0:0{};}", "a:1:1{i:0;a:0:0}}", "a:1:1{i:0;a:1:1{i:0;N;}",
		// Nothing but an integer or a string is a key.
		"a:1:9{N;N;}", "a:1:9{b:0;N;}", "a:1:9{b:1;N;}", "a:1:9{a:0:0{}N;}", "a:1:9{a:1:1{i:0;N;}N;}", "a:2:9{i:0;N;N;N;}", "a:2:9{i:0;N;b:1;N;}",
	} {
		checkNotReadWithin(t, s)
	}
}

func TestRepeatedKeysAreNotRead(t *testing.T) {
	for _, key := range []string{"i:0;", "i:5;", "i:-5;", "i:1000000000;", "i:-1000000000;", "s:0:;", "s:1:a;", "s:2:05;", "s:1:;;", "s:400:" + strings.Repeat("k", 400) + ";"} {
		for _, pair := range [][2]string{{"N;", "N;"}, {"N;", "i:1;"}, {"i:1;", "a:0:0{}"}} {
			first, second := key+pair[0], key+pair[1]
			checkNotReadWithin(t, "a:2:1000000001{"+first+second+"}")
			checkNotReadWithin(t, "a:1:1000000001{"+first+second+"}")
			checkNotReadWithin(t, "a:3:1000000001{"+first+"i:7;N;"+second+"}")
			checkNotReadWithin(t, "a:3:1000000001{"+"s:1:z;N;"+first+second+"}")
			// The same key may stand in another array.
			checkTextAsModelSerial(t, "a:2:1000000001{"+first+"i:7;a:1:1000000001{"+second+"}}")
		}
	}
	checkWritten(t, array(6, entry(intKey(5), impl.NullValue()), entry(strKey("05"), impl.NullValue()), entry(intKey(-5), impl.NullValue())), "a:3:6{i:5;N;s:2:05;N;i:-5;N;}")
	many := array(198)
	for i := range 198 {
		many.Items = append(many.Items, entry(intKey(i), impl.NullValue()))
	}
	many.Items = append(many.Items, entry(intKey(0), impl.NullValue()))
	checkNoText(t, many)
	checkNotReadWithin(t, serialForm(many))
	many.Items[198].Key = strKey("last")
	checkWritten(t, many, serialForm(many))
}

// TestStringKeysThatAreIntegers has strings in which an integer is written: they are no keys.
func TestStringKeysThatAreIntegers(t *testing.T) {
	for form, isInteger := range integerForms() {
		v := array(1000000001, entry(strKey(form), impl.NullValue()))
		s := fmt.Sprintf("a:1:1000000001{s:%d:%s;N;}", len(form), form)
		if isInteger || len(form) > impl.MaxText {
			checkNoText(t, v)
			checkNotReadWithin(t, s)
		} else {
			checkWritten(t, v, s)
		}
	}
	for n := -1200; n <= 1200; n++ {
		form := strconv.Itoa(n)
		checkNotRead(t, fmt.Sprintf("a:1:5000{s:%d:%s;N;}", len(form), form))
		checkTextAsModelSerial(t, fmt.Sprintf("a:2:5000{s:%d:0%s;N;i:%s;N;}", len(form)+1, form, form))
	}
}

// TestNextOfTexts has a Next about the greatest key, and about its own limits.
func TestNextOfTexts(t *testing.T) {
	null := impl.NullValue()
	for _, key := range []int{-1000000000, -999999999, -5, -1, 0, 1, 5, 255, 256, 999999998, 999999999, 1000000000} {
		for _, next := range []int{-1000000000, -1, 0, 1, 2, 4, 5, 6, 7, 256, 257, key - 1, key, key + 1, key + 2, 999999999, 1000000000, 1000000001, 1000000002, 1000000000000, 4294967296, 4294967297, math.MaxInt, math.MinInt} {
			for _, v := range []impl.Value{
				array(next, entry(intKey(key), null)), array(next, entry(strKey("a"), null), entry(intKey(key), null), entry(intKey(-7), null)), list(null, array(next, entry(intKey(key), null))),
			} {
				s := serialForm(v)
				if next > key && next >= 0 && next <= 1000000001 {
					checkWritten(t, v, s)
				} else {
					checkNoText(t, v)
					checkNotReadWithin(t, s)
				}
			}
		}
	}
	for _, next := range []int{-1, math.MinInt, 1000000002, 1 << 32, 1000000000000, math.MaxInt} {
		checkNoText(t, array(next))
		checkNotReadWithin(t, fmt.Sprintf("a:0:%d{}", next))
		checkNotReadWithin(t, fmt.Sprintf("a:1:%d{s:1:a;N;}", next))
	}
	for _, form := range []string{"", "00", "05", "-0", "+5", " 5", "5 ", "5.0", "x", "0x5", "4294967301", "18446744073709551621", "1000000000001", "9223372036854775808", strings.Repeat("9", 1000), strings.Repeat("0", 1000) + "5"} {
		checkNotReadWithin(t, "a:0:"+form+"{}")
		checkNotReadWithin(t, "a:1:"+form+"{i:0;N;}")
	}
}

// TestWeightsOfTexts has values that weigh just as much as a value may weigh, and 1 more.
func TestWeightsOfTexts(t *testing.T) {
	null := impl.NullValue()
	for _, v := range []impl.Value{
		list(nulls(199)...), nested(199, null), nested(199, array(0)), list(append(nulls(189), list(nulls(9)...))...), nested(100, list(nulls(99)...)), list(doubled(6, null), nested(70, null), impl.TextValue("x")), texted(0, 199), list(texted(0, 99), texted(0, 98)),
	} {
		if modelWeight(v) != 200 {
			t.Errorf("%s weighs %d", brief(v), modelWeight(v))
		}
		checkWritten(t, v, serialForm(v))
		heavier := array(v.Next, append(slices.Clone(v.Items), entry(strKey("one more"), null))...)
		for _, w := range []impl.Value{heavier, list(v)} {
			checkNoText(t, w)
			checkNotReadWithin(t, serialForm(w))
		}
	}
	for _, v := range []impl.Value{list(nulls(200)...), nested(200, null), nested(200, list()), doubled(7, null), list(nulls(5000)...), nested(5000, null), doubled(12, null), list(list(nulls(100)...), list(nulls(100)...))} {
		checkSerialize(t, v, "", false)
		checkNotRead(t, serialForm(v))
	}
	// The texts in a value weigh nothing.
	long := impl.TextValue(strings.Repeat("t", 400))
	heavy := array(0)
	for i := range 199 {
		heavy.Items = append(heavy.Items, entry(strKey(fmt.Sprintf("%0400d", i)), long))
	}
	checkWritten(t, heavy, serialForm(heavy))
}

func TestValuesThatAreNotValidHaveNoText(t *testing.T) {
	for _, v := range badArrays() {
		checkNoText(t, v)
	}
	for _, v := range []impl.Value{
		{Num: 1}, {Num: -1}, {Str: "x"}, {Next: 1}, {Items: list(impl.NullValue()).Items},
		{Kind: 1, Num: 2}, {Kind: 1, Num: -1}, {Kind: 1, Num: 256}, {Kind: 1, Num: 1 << 32}, {Kind: 1, Str: "1"}, {Kind: 1, Next: 1}, {Kind: 1, Num: 1, Items: list(impl.NullValue()).Items},
		{Kind: 2, Num: 1000000001}, {Kind: 2, Num: -1000000001}, {Kind: 2, Num: math.MaxInt}, {Kind: 2, Num: math.MinInt}, {Kind: 2, Num: 1 << 32}, {Kind: 2, Str: "5"}, {Kind: 2, Next: 5}, {Kind: 2, Items: list(impl.NullValue()).Items},
		{Kind: 3, Num: 1, Str: "x"}, {Kind: 3, Num: -1}, {Kind: 3, Next: 1}, {Kind: 3, Str: "x", Items: list(impl.NullValue()).Items}, {Kind: 3, Str: strings.Repeat("t", 401)},
		{Kind: 4, Num: 1}, {Kind: 4, Str: "x"}, {Kind: 4, Next: -1}, {Kind: 4, Next: 1000000002}, {Kind: 4, Num: 4, Next: 1, Items: list(impl.NullValue()).Items},
	} {
		checkNoText(t, v)
	}
	for _, k := range lookAlikes() {
		v := array(1000000001, entry(k, impl.IntValue(1)))
		if modelIsKey(k) {
			checkWritten(t, v, serialForm(v))
		} else {
			checkNoText(t, v)
		}
	}
}

func TestValuesThatAreNotPlainHaveNoText(t *testing.T) {
	for _, v := range unlikeKinds() {
		checkNoText(t, v)
	}
	for _, kind := range []int{impl.KindHandle, impl.KindObject, impl.KindClosure, impl.KindGen} {
		for n := range 256 {
			checkSerialize(t, number(kind, n), "", false)
		}
		checkNoText(t, number(kind, 256))
		// Everything else in the array has a text.
		v := list(nested(90, impl.NullValue()), impl.TextValue("x"), array(0, entry(strKey("a"), list(impl.IntValue(1), number(kind, 0)))))
		checkNoText(t, v)
		v.Items[2].Val.Items[0].Val.Items[1].Val = impl.NullValue()
		checkWritten(t, v, serialForm(v))
	}
}

func TestTextsOfOtherValues(t *testing.T) {
	hasText := 0
	for _, v := range slices.Concat(allValues(), otherValues(), badArrays(), sharingArguments(), sharingOperands()) {
		s, isWritten := modelSerialize(v)
		checkSerialize(t, v, s, isWritten)
		if isWritten {
			hasText++
			checkWritten(t, v, s)
		}
	}
	if hasText < 200 {
		t.Errorf("%d values have a text", hasText)
	}
}

// TestTextsTellValuesApart has values of which no two are the same: they have different texts.
func TestTextsTellValuesApart(t *testing.T) {
	values := map[string]impl.Value{}
	all := slices.Concat(allValues(), sharingArguments())
	for _, c := range writtenValues() {
		all = append(all, c.v, list(c.v), array(7, entry(strKey("a"), c.v)))
	}
	for _, v := range all {
		s, ok := impl.Serialize(v)
		if other, isThere := values[s]; ok && isThere && !isSame(v, other) {
			t.Errorf("%s and %s have the same text %s", brief(v), brief(other), cut(s))
		}
		if ok {
			values[s] = v
		}
	}
	if len(values) < 300 {
		t.Errorf("there are %d texts", len(values))
	}
}

// countRead checks every text of up to five pieces and counts those that are read.
func countRead(t *testing.T, pieces []string) int {
	t.Helper()
	texts := []string{""}
	found := 0
	for range 6 {
		var longer []string
		for _, s := range texts {
			if checkTextAsModelSerial(t, s) {
				found++
			}
			for _, piece := range pieces {
				longer = append(longer, s+piece)
			}
		}
		if t.Failed() {
			break
		}
		texts = longer
	}
	return found
}

func TestTextsOfPieces(t *testing.T) {
	found := countRead(t, []string{"N;", "b:1;", "i:0;", "i:-1;", "s:1:a;", "s:1:0;", "a:0:0{", "a:1:1{", "a:2:0{", "a:2:2{", "}", ";"})
	// 6 scalars, the empty array, and 3 keys with each of these.
	if found != 28 {
		t.Errorf("%d texts are read", found)
	}
}

func TestShortTextsOfValues(t *testing.T) {
	found := countRead(t, strings.Split("Nbisa:;01-{}", ""))
	// N; b:0; b:1; i:0; i:1; i:10; i:11; i:-1; s:0:;
	if found != 9 {
		t.Errorf("%d texts are read", found)
	}
}

// TestChangedTexts leaves out, puts in and changes every byte.
func TestChangedTexts(t *testing.T) {
	found := 0
	for _, c := range writtenValues() {
		if len(c.s) > 120 {
			continue
		}
		for at := range len(c.s) + 1 {
			var changed []string
			for _, b := range "\x00 -+.0123459:;Nabis{}x\xff" {
				changed = append(changed, c.s[:at]+string(b)+c.s[at:])
				if at < len(c.s) {
					changed = append(changed, c.s[:at]+string(b)+c.s[at+1:])
				}
			}
			if at < len(c.s) {
				changed = append(changed, c.s[:at]+c.s[at+1:])
			}
			for _, s := range changed {
				if checkTextAsModelSerial(t, s) && s != c.s {
					found++
				}
			}
		}
	}
	if found < 100 {
		t.Errorf("%d changed texts are read", found)
	}
}

// randomText has bytes that texts are made of, and others.
func randomText(random *rand.Rand, most int) string {
	b := make([]byte, random.Intn(most+1))
	for i := range b {
		b[i] = byte(random.Intn(256))
		if random.Intn(2) == 0 {
			b[i] = ":;{}Nbisa01\""[random.Intn(12)]
		}
	}
	return string(b)
}

// randomPlain is a plain value, but it may weigh too much.
func randomPlain(random *rand.Rand, most int) impl.Value {
	switch random.Intn(9) {
	case 0:
		return impl.NullValue()
	case 1:
		return impl.BoolValue(random.Intn(2) == 0)
	case 2:
		return impl.IntValue(random.Intn(2000000001) - 1000000000)
	case 3:
		return impl.IntValue(random.Intn(40) - 20)
	case 4:
		return impl.TextValue(randomText(random, 12))
	}
	v := impl.ArrayValue()
	for range random.Intn(most + 1) {
		k := intKey(random.Intn(200) - 100)
		if s := randomText(random, 5); random.Intn(2) == 0 && modelIsKey(strKey(s)) {
			k = strKey(s)
		}
		v = modelSet(v, k, randomPlain(random, most/2))
	}
	v.Next += random.Intn(2) * random.Intn(1000)
	return v
}

func TestRandomValuesAreReadBack(t *testing.T) {
	random := rand.New(rand.NewSource(1111))
	light, changed := 0, 0
	for range 3000 {
		v := randomPlain(random, 40)
		s := serialForm(v)
		if modelWeight(v) > 200 {
			checkNoText(t, v)
			checkNotRead(t, s)
			continue
		}
		light++
		checkWritten(t, v, s)
		for range 10 {
			b := []byte(s)
			b[random.Intn(len(b))] = byte(random.Intn(256))
			if random.Intn(2) == 0 {
				b[random.Intn(len(b))] = "0123456789:;-{}Nbisa"[random.Intn(20)]
			}
			if string(b) != s && checkTextAsModelSerial(t, string(b)) {
				changed++
			}
		}
		if t.Failed() {
			return
		}
	}
	if light < 1500 || light == 3000 || changed < 300 {
		t.Errorf("%d values are light, and %d changed texts are read", light, changed)
	}
}

func TestRandomTexts(t *testing.T) {
	random := rand.New(rand.NewSource(11111))
	for range 200000 {
		checkTextAsModelSerial(t, randomText(random, 10))
	}
}

// TestEndlessTexts has texts that would lead on and on, or say that they are vast.
func TestEndlessTexts(t *testing.T) {
	const count = 1000000
	digits := strings.Repeat("1", count)
	for _, s := range []string{
		strings.Repeat("a:1:1{i:0;", count), strings.Repeat("a:1:1{i:0;", count) + "N;" + strings.Repeat("}", count), strings.Repeat("a:1:1{", count), strings.Repeat("a:2:2{i:0;N;i:1;", count), strings.Repeat("a:1:0{s:0:;", count) + "N;" + strings.Repeat("}", count), strings.Repeat("a:", count), strings.Repeat("{", count), strings.Repeat("}", count),
		strings.Repeat("N;", count), strings.Repeat("i:0;", count), strings.Repeat(";", count), strings.Repeat(":", count), strings.Repeat("s:", count), strings.Repeat("\x00", count),
		"i:" + digits + ";", "i:-" + digits + ";", "s:" + digits + ":x;", "s:" + digits, "a:" + digits + ":0{}", "a:0:" + digits + "{}", "b:" + digits + ";", "i:" + strings.Repeat("0", count) + "5;", "i:" + strings.Repeat("-", count) + "5;",
		"s:1000000:" + digits + ";", "a:1:0{s:1000000:" + digits + ";N;}",
		"a:1000000000000:0{", "a:1000000000000:0{}", "a:1000000000000:1000000001{i:0;N;}", "a:9223372036854775807:0{}", "a:-9223372036854775808:0{}", "s:1000000000000:x;", "s:9223372036854775807:x;", "s:9223372036854775806:;", "s:-9223372036854775808:x;",
		"a:1000000:1000000{" + strings.Repeat("i:0;N;", count) + "}", serialForm(list(nulls(count)...)),
	} {
		checkNotRead(t, s)
	}
}

// TestSerializationGoesNoDeeperThanValues would run out of stack if a function called itself for each array of a deep text or value.
func TestSerializationGoesNoDeeperThanValues(t *testing.T) {
	defer debug.SetMaxStack(debug.SetMaxStack(1 << 20))
	checkSerialize(t, nested(100000, impl.NullValue()), "", false)
	checkNotRead(t, strings.Repeat("a:1:1{i:0;", 100000)+"N;"+strings.Repeat("}", 100000))
	deepest := nested(199, impl.NullValue())
	checkWritten(t, deepest, serialForm(deepest))
}

func TestTextsOfVastValues(t *testing.T) {
	values, before := vastValues(), vastValues()
	for i, v := range values {
		checkSerialize(t, v, "", false)
		checkSerialize(t, list(v, v), "", false)
		checkIdentical(t, v, before[i], true)
	}
}

// lieTogether reports whether two texts share bytes.
func lieTogether(s, r string) bool {
	if s == "" || r == "" {
		return false
	}
	a, b := uintptr(unsafe.Pointer(unsafe.StringData(s))), uintptr(unsafe.Pointer(unsafe.StringData(r)))
	return a < b+uintptr(len(r)) && b < a+uintptr(len(s))
}

// textsOf returns every string in v, also those of keys.
func textsOf(v impl.Value) []string {
	l := []string{v.Str}
	for _, e := range v.Items {
		l = append(append(l, e.Key.Str), textsOf(e.Val)...)
	}
	return l
}

func TestReadValuesShareNoMemory(t *testing.T) {
	for _, c := range writtenValues() {
		s := strings.Clone("a:2:0{s:3:key;" + c.s + "s:5:other;" + c.s + "}")
		first, _ := impl.Unserialize(s)
		second, _ := impl.Unserialize(s)
		texts := append(textsOf(first), textsOf(second)...)
		for i, text := range texts {
			if lieTogether(text, s) {
				t.Errorf("%q lies in the text %s", text, cut(s))
			}
			for _, other := range texts[:i] {
				if lieTogether(text, other) {
					t.Errorf("two strings of %s share memory", cut(s))
				}
			}
		}
		got := newMemory()
		if seen := got.addValue(first) + got.addValue(second); seen != len(got.items) {
			t.Errorf("two lists of %s share memory", cut(s))
		}
		spoil(first)
		checkWritten(t, second, s)
	}
}

func TestTextsShareNoMemory(t *testing.T) {
	var texts []string
	for _, c := range writtenValues() {
		for range 2 {
			s, _ := impl.Serialize(c.v)
			for _, part := range textsOf(c.v) {
				if lieTogether(s, part) {
					t.Errorf("the text %s lies in its value", cut(s))
				}
			}
			for _, other := range texts {
				if lieTogether(s, other) {
					t.Errorf("two texts of %s share memory", brief(c.v))
				}
			}
			texts = append(texts, s)
		}
	}
}

func TestSerializeLeavesItsArgument(t *testing.T) {
	for i, v := range append(sharingOperands(), badArrays()...) {
		for _, w := range []impl.Value{v, withRoom(v)} {
			before := withSpare(w)
			impl.Serialize(w)
			if !reflect.DeepEqual(withSpare(w), before) {
				t.Errorf("the value %d has changed", i)
			}
		}
	}
}

// TestSharedItemsAreWrittenTwice has arrays that share their items, as far as weights allow.
func TestSharedItemsAreWrittenTwice(t *testing.T) {
	x := list(impl.TextValue("x"))
	checkWritten(t, list(x, x), "a:2:2{i:0;a:1:1{i:0;s:1:x;}i:1;a:1:1{i:0;s:1:x;}}")
	two := list(x, impl.NullValue())
	part := array(5, two.Items[:1]...)
	checkWritten(t, list(two, part, two), "a:3:3{i:0;a:2:2{i:0;a:1:1{i:0;s:1:x;}i:1;N;}i:1;a:1:5{i:0;a:1:1{i:0;s:1:x;}}i:2;a:2:2{i:0;a:1:1{i:0;s:1:x;}i:1;N;}}")
	checkWritten(t, doubled(6, impl.NullValue()), serialForm(doubled(6, impl.NullValue())))
}

func TestSerializationIsRepeatable(t *testing.T) {
	bad := []string{"", "a:1:1{i:0;", "s:5:x;", strings.Repeat("a:1:1{i:0;", 300)}
	for range 3 {
		for _, c := range writtenValues() {
			checkWritten(t, c.v, c.s)
			checkNotRead(t, bad[len(c.s)%len(bad)])
			checkSerialize(t, list(c.v, number(impl.KindObject, 1)), "", false)
		}
	}
}
