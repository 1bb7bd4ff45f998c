package tests

import (
	"fmt"
	"math"
	"math/big"
	"math/rand"
	"reflect"
	"regexp"
	"strconv"
	"strings"
	"testing"

	"loop.example/g03011/impl"
)

// Promise 8: integers are written and read back.

var (
	leadingForm = regexp.MustCompile(`^-?[0-9]+`)
	numericForm = regexp.MustCompile(`^-?[0-9]{1,10}$`)
)

// modelNumber reads a text that is nothing but a number, however long it is.
func modelNumber(s string) *big.Int {
	n, _ := new(big.Int).SetString(s, 10)
	return n
}

func modelLeadingInt(s string) int {
	digits := leadingForm.FindString(s)
	if digits == "" {
		return 0
	}
	n, least, most := modelNumber(digits), big.NewInt(-1000000000), big.NewInt(1000000000)
	if n.Cmp(least) < 0 {
		n = least
	}
	if n.Cmp(most) > 0 {
		n = most
	}
	return int(n.Int64())
}

func modelIsNumeric(s string) bool {
	return numericForm.MatchString(s) && modelNumber(s).CmpAbs(big.NewInt(1000000000)) <= 0
}

// conversion is all that this chapter says of a value.
type conversion struct {
	isTrue     bool
	number     int
	text       string
	textErr    int
	numeric    int
	numericErr int
}

// modelConversion goes by the kinds as the document counts them.
func modelConversion(v impl.Value) conversion {
	switch v.Kind {
	case 0:
		return conversion{false, 0, "", 0, 0, 0}
	case 1:
		if v.Num != 0 {
			return conversion{true, 1, "1", 0, 1, 0}
		}
		return conversion{false, 0, "", 0, 0, 0}
	case 2:
		return conversion{v.Num != 0, v.Num, strconv.Itoa(v.Num), 0, v.Num, 0}
	case 3:
		n := modelLeadingInt(v.Str)
		c := conversion{v.Str != "" && v.Str != "0", n, v.Str, 0, n, 0}
		if !modelIsNumeric(v.Str) {
			c.numeric, c.numericErr = 0, 2
		}
		return c
	case 4:
		if len(v.Items) == 0 {
			return conversion{false, 0, "", 1, 0, 2}
		}
	}
	return conversion{true, 1, "", 1, 0, 2}
}

func conversionOf(v impl.Value) conversion {
	var c conversion
	c.isTrue, c.number = impl.ToBool(v), impl.ToInt(v)
	c.text, c.textErr = impl.ToText(v)
	c.numeric, c.numericErr = impl.ToNumber(v)
	return c
}

// cut shows a text, but not all of a long one.
func cut(s string) string {
	if len(s) > 60 {
		return fmt.Sprintf("%.60q and on to %d bytes", s, len(s))
	}
	return strconv.Quote(s)
}

func checkConverted(t *testing.T, v impl.Value, want conversion) {
	t.Helper()
	got := conversionOf(v)
	if got.isTrue != want.isTrue {
		t.Errorf("ToBool(%s) = %v; want %v", brief(v), got.isTrue, want.isTrue)
	}
	if got.number != want.number {
		t.Errorf("ToInt(%s) = %d; want %d", brief(v), got.number, want.number)
	}
	if got.text != want.text || got.textErr != want.textErr {
		t.Errorf("ToText(%s) = %s, %d; want %s, %d", brief(v), cut(got.text), got.textErr, cut(want.text), want.textErr)
	}
	if got.numeric != want.numeric || got.numericErr != want.numericErr {
		t.Errorf("ToNumber(%s) = %d, %d; want %d, %d", brief(v), got.numeric, got.numericErr, want.numeric, want.numericErr)
	}
}

func checkAsModelConverted(t *testing.T, v impl.Value) {
	t.Helper()
	checkConverted(t, v, modelConversion(v))
}

// checkLeading checks what every function reads from a text.
func checkLeading(t *testing.T, s string, leading int, isNumeric bool) {
	t.Helper()
	if got := impl.LeadingInt(s); got != leading {
		t.Errorf("LeadingInt(%s) = %d; want %d", cut(s), got, leading)
	}
	if got := impl.IsNumeric(s); got != isNumeric {
		t.Errorf("IsNumeric(%s) = %v; want %v", cut(s), got, isNumeric)
	}
	want := conversion{isTrue: s != "" && s != "0", number: leading, text: s, numeric: leading}
	if !isNumeric {
		want.numeric, want.numericErr = 0, impl.ErrNumber
	}
	checkConverted(t, impl.TextValue(s), want)
}

func checkTextAsModel(t *testing.T, s string) {
	t.Helper()
	checkLeading(t, s, modelLeadingInt(s), modelIsNumeric(s))
}

func TestErrorCodes(t *testing.T) {
	codes := []int{
		impl.ErrNone, impl.ErrText, impl.ErrNumber, impl.ErrOverflow, impl.ErrZero, impl.ErrKey,
		impl.ErrIndex, impl.ErrFull, impl.ErrArgs, impl.ErrMemory, impl.ErrOutput,
	}
	for want, code := range codes {
		if code != want {
			t.Errorf("the code %d is %d", want, code)
		}
	}
}

func TestErrorName(t *testing.T) {
	for i, want := range []string{"text", "number", "overflow", "zero", "key", "index", "full", "args", "memory", "output"} {
		if got := impl.ErrorName(i + 1); got != want {
			t.Errorf("ErrorName(%d) = %q; want %q", i+1, got, want)
		}
	}
	for _, code := range []int{0, 11, 12, 13, 100, 255, 256, 257, 1 << 32, 1<<32 + 1, -1, -2, -9, -10, -11, -1 << 32, math.MaxInt, math.MinInt, math.MinInt + 1} {
		if got := impl.ErrorName(code); got != "" {
			t.Errorf("ErrorName(%d) = %q; want the empty text", code, got)
		}
	}
}

func TestTextsWithoutADigitInFront(t *testing.T) {
	for _, s := range []string{
		"", "-", "--", "---", "+", "x", "-x", "abc", "--1", "---1", "+1", "+-1", "-+1", "- 1", " ", " 1", "  12", " -1", "\t1", "\n1", "\r1", "\v1", "\f1",
		"\x001", "-\x001", ".5", "-.5", ",1", "_1", "/1", ":1", "x1", "e1", "#1", "$1", "(1)", "'1'",
		"\x7f1", "\x801", "\xb01", "\xff1", "-\xff1", "\u06611", "\uff11", "\u22121", "\u00a01", "\ufeff1", "\u00b2", "\u0967", "Inf", "-Inf", "NaN", "nil", "true", "null",
	} {
		checkLeading(t, s, 0, false)
	}
}

func TestTextsThatOnlyBeginWithANumber(t *testing.T) {
	for _, c := range []struct {
		s    string
		want int
	}{
		{"12ab", 12}, {"7 days", 7}, {"-7 days", -7}, {"1x", 1}, {"-1x", -1}, {"0x10", 0}, {"-0x10", 0}, {"0b1", 0}, {"0o7", 0}, {"08x", 8}, {"-007z", -7},
		{"1 ", 1}, {"1\n", 1}, {"1\x00", 1}, {"5 6", 5}, {"1-", 1}, {"1-2", 1}, {"-1-2", -1}, {"1+2", 1}, {"1.9", 1}, {"-1.9", -1}, {"1.", 1}, {"1e3", 1}, {"-2E9", -2},
		{"1_000", 1}, {"1,000", 1}, {"3/4", 3}, {"3:4", 3}, {"0 ", 0}, {"-0 ", 0}, {"00-", 0},
		{"1\x7f", 1}, {"1\x80", 1}, {"1\xb9", 1}, {"1\xff", 1}, {"-1\xff2", -1}, {"1\u0661", 1}, {"12\uff13", 12}, {"4\u00b2", 4}, {"6\u00a07", 6},
		{"999999999x", 999999999}, {"1000000000x", 1000000000}, {"-1000000000x", -1000000000}, {"1000000001x", 1000000000}, {"-1000000001x", -1000000000},
		{"99999999999 and more", 1000000000}, {"-99999999999 and more", -1000000000},
		{"00000000000000000000001x", 1}, {"-00000000000000000000012 ", -12},
	} {
		checkLeading(t, c.s, c.want, false)
	}
}

func TestNumericTexts(t *testing.T) {
	for _, c := range []struct {
		s    string
		want int
	}{
		{"0", 0}, {"-0", 0}, {"00", 0}, {"-00", 0}, {"1", 1}, {"-1", -1}, {"5", 5}, {"9", 9}, {"-9", -9}, {"10", 10}, {"-12", -12}, {"05", 5}, {"-05", -5}, {"007", 7}, {"-0100", -100},
		{"123456789", 123456789}, {"-987654321", -987654321}, {"0123456789", 123456789}, {"-0987654321", -987654321},
		{"999999999", 999999999}, {"-999999999", -999999999}, {"0999999999", 999999999}, {"-0999999999", -999999999}, {"1000000000", 1000000000}, {"-1000000000", -1000000000},
		{"0000000000", 0}, {"-0000000000", 0}, {"0000000001", 1}, {"-0000000001", -1}, {"0000000010", 10},
	} {
		checkLeading(t, c.s, c.want, true)
	}
}

// TestNumbersThatAreNotNumeric has numbers that are too great, and those that are not but have more than ten digits.
func TestNumbersThatAreNotNumeric(t *testing.T) {
	for _, c := range []struct {
		s    string
		want int
	}{
		{"1000000001", 1000000000}, {"1000000002", 1000000000}, {"1000000009", 1000000000}, {"1000000010", 1000000000}, {"1100000000", 1000000000}, {"2000000000", 1000000000}, {"9999999999", 1000000000},
		{"2147483647", 1000000000}, {"2147483648", 1000000000}, {"4294967295", 1000000000}, {"4294967296", 1000000000}, {"4294967297", 1000000000},
		{"00000000000", 0}, {"00000000001", 1}, {"00999999999", 999999999}, {"01000000000", 1000000000}, {"01000000001", 1000000000}, {"10000000000", 1000000000}, {"99999999999", 1000000000},
		{"999999999999", 1000000000}, {"1000000000000", 1000000000}, {"9223372036854775807", 1000000000}, {"9223372036854775808", 1000000000}, {"9223372036854775809", 1000000000},
		// 2 to the power of 64, and a little more: they would wrap around to small numbers.
		{"18446744073709551615", 1000000000}, {"18446744073709551616", 1000000000}, {"18446744073709551617", 1000000000}, {"36893488147419103233", 1000000000}, {"340282366920938463463374607431768211457", 1000000000},
		{"000000000000000000000000000007", 7}, {"0000000000000000000001000000000", 1000000000}, {"0000000000000000000001000000001", 1000000000},
	} {
		checkLeading(t, c.s, c.want, false)
		checkLeading(t, "-"+c.s, -c.want, false)
	}
}

func TestTextsOfManyDigits(t *testing.T) {
	for _, size := range []int{20, 30, 100, 400, 401, 100000} {
		zeros := strings.Repeat("0", size)
		for _, sign := range []struct {
			text   string
			factor int
		}{{"", 1}, {"-", -1}} {
			checkLeading(t, sign.text+zeros, 0, false)
			checkLeading(t, sign.text+zeros+"x", 0, false)
			checkLeading(t, sign.text+zeros+"42", 42*sign.factor, false)
			checkLeading(t, sign.text+zeros+"42"+zeros, impl.MaxInt*sign.factor, false)
			checkLeading(t, sign.text+zeros+"1000000000", impl.MaxInt*sign.factor, false)
			checkLeading(t, sign.text+zeros+"999999999 "+zeros, 999999999*sign.factor, false)
			checkLeading(t, sign.text+"1"+zeros, impl.MaxInt*sign.factor, false)
			checkLeading(t, sign.text+strings.Repeat("9", size), impl.MaxInt*sign.factor, false)
			checkLeading(t, sign.text+strings.Repeat("9", size)+"\xff", impl.MaxInt*sign.factor, false)
			checkLeading(t, sign.text+strings.Repeat("-", size)+"1", 0, false)
		}
	}
}

// TestEveryByteBesideDigits puts each byte ahead of digits, behind them and between them.
func TestEveryByteBesideDigits(t *testing.T) {
	for c := range 256 {
		b := string([]byte{byte(c)})
		if '0' <= c && c <= '9' {
			checkLeading(t, b, c-'0', true)
			checkLeading(t, "5"+b, 50+c-'0', true)
			checkLeading(t, "-6"+b+"7", -607-10*(c-'0'), true)
			continue
		}
		checkLeading(t, b, 0, false)
		checkLeading(t, "-"+b, 0, false)
		checkLeading(t, "5"+b, 5, false)
		checkLeading(t, "-5"+b, -5, false)
		checkLeading(t, "-6"+b+"7", -6, false)
		checkLeading(t, "1000000000"+b+"0", impl.MaxInt, false)
		checkLeading(t, "-"+b+"5", 0, false)
		if c == '-' {
			checkLeading(t, b+"5", -5, true)
		} else {
			checkLeading(t, b+"5", 0, false)
			checkLeading(t, b+"-5", 0, false)
		}
	}
}

// TestAllShortTexts goes through every text of up to five of these bytes.
func TestAllShortTexts(t *testing.T) {
	texts := []string{""}
	for range 6 {
		var longer []string
		for _, s := range texts {
			checkTextAsModel(t, s)
			if t.Failed() {
				return
			}
			for _, c := range []string{"0", "1", "9", "-", "+", " ", "x", "\xb9"} {
				longer = append(longer, s+c)
			}
		}
		texts = longer
	}
}

// TestNumbersInTexts puts numbers of all sizes between what may stand ahead of them and behind them.
func TestNumbersInTexts(t *testing.T) {
	ahead := []string{"", "-", "--", "+", " ", "-+", "x", "-x", "\xff", "0", "-0", "-00", "00000000", "-0000000000"}
	behind := []string{"", " ", "x", "-", "-1", "0", "00", ".0", "e1", "\x00", "\n", "\xff", "\u0661"}
	numbers := []string{"", "0", "1", "9", "42", "12345"}
	for _, middle := range []int{99999999, 999999999, 1000000000, 9999999999, 1 << 31, 1 << 32, 1e18} {
		for d := -3; d <= 3; d++ {
			numbers = append(numbers, strconv.Itoa(middle+d))
		}
	}
	wrapped := new(big.Int).Lsh(big.NewInt(1), 64)
	for d := int64(-3); d <= 3; d++ {
		for factor := int64(1); factor <= 10; factor++ {
			n := new(big.Int).Mul(wrapped, big.NewInt(factor))
			numbers = append(numbers, n.Add(n, big.NewInt(d)).String())
		}
	}
	for _, digits := range numbers {
		for _, front := range ahead {
			for _, back := range behind {
				checkTextAsModel(t, front+digits+back)
			}
			if t.Failed() {
				return
			}
		}
	}
}

func TestNullIsConverted(t *testing.T) {
	checkConverted(t, impl.NullValue(), conversion{})
}

func TestBooleansAreConverted(t *testing.T) {
	checkConverted(t, impl.BoolValue(false), conversion{})
	checkConverted(t, number(impl.KindBool, 0), conversion{})
	checkConverted(t, impl.BoolValue(true), conversion{isTrue: true, number: 1, text: "1", numeric: 1})
	for _, n := range []int{1, 2, 7, 10, -1, -2, 256, 1 << 32, impl.MaxInt, -impl.MaxInt, impl.MaxInt + 1, math.MaxInt, math.MinInt} {
		checkConverted(t, number(impl.KindBool, n), conversion{isTrue: true, number: 1, text: "1", numeric: 1})
	}
}

func TestIntegersAreConverted(t *testing.T) {
	for _, c := range []struct {
		n    int
		text string
	}{
		{0, "0"}, {1, "1"}, {-1, "-1"}, {-4, "-4"}, {10, "10"}, {-905, "-905"}, {256, "256"}, {1 << 32, "4294967296"}, {-1 << 32, "-4294967296"},
		{impl.MaxInt - 1, "999999999"}, {impl.MaxInt, "1000000000"}, {-impl.MaxInt, "-1000000000"}, {impl.MaxInt + 1, "1000000001"}, {-impl.MaxInt - 1, "-1000000001"},
		{impl.MaxValue, "1000000000000"}, {-impl.MaxValue, "-1000000000000"}, {math.MaxInt, "9223372036854775807"}, {math.MinInt, "-9223372036854775808"},
	} {
		checkConverted(t, impl.IntValue(c.n), conversion{isTrue: c.n != 0, number: c.n, text: c.text, numeric: c.n})
	}
}

func TestTextsAreConverted(t *testing.T) {
	for _, s := range []string{"", "0"} {
		if impl.ToBool(impl.TextValue(s)) {
			t.Errorf("ToBool of the text %q is true", s)
		}
	}
	for _, s := range []string{"00", "0.0", " ", "-0", "+0", "-", "000", "0 ", " 0", "0\x00", "\x00", "0x", "a", "1", "false", "null", "\xff", "\u0660", "\uff10"} {
		if !impl.ToBool(impl.TextValue(s)) {
			t.Errorf("ToBool of the text %q is false", s)
		}
	}
	for _, s := range []string{"", "a", "7 days", "-12", "0", "\x00\xff", "a\nb", "<&>", strings.Repeat("a", 400), strings.Repeat("b", 401), strings.Repeat("\xff", 100000)} {
		checkTextAsModel(t, s)
	}
}

func TestArraysAreConverted(t *testing.T) {
	for _, v := range []impl.Value{impl.ArrayValue(), array(5), {Kind: impl.KindArray, Items: []impl.Entry{}}, {Kind: impl.KindArray, Num: 3, Str: "12", Next: -1}} {
		checkConverted(t, v, conversion{textErr: impl.ErrText, numericErr: impl.ErrNumber})
	}
	for _, v := range []impl.Value{
		list(impl.NullValue()), list(impl.IntValue(0)), list(impl.TextValue("")), list(impl.TextValue("12")), list(impl.ArrayValue()), list(nulls(300)...), nested(300, impl.NullValue()),
		array(0, entry(strKey(""), impl.BoolValue(false))), array(0, entry(impl.Key{Num: 3, Str: "x"}, number(99, 0))), {Kind: impl.KindArray, Num: 3, Str: "12", Items: list(impl.IntValue(7)).Items},
	} {
		checkConverted(t, v, conversion{isTrue: true, number: 1, textErr: impl.ErrText, numericErr: impl.ErrNumber})
	}
}

// otherKinds has the kinds that are no scalars and no arrays, and numbers that are no kinds.
func otherKinds() []int {
	return []int{5, 6, 7, 8, 9, 10, 100, 255, 256, 257, 258, 259, 260, 1 << 32, 1<<32 + 1, 1<<32 + 2, 1<<32 + 3, 1<<32 + 4, -1, -2, -3, -4, -1 << 32, math.MaxInt, math.MinInt, math.MinInt + 3}
}

func TestOtherKindsAreConverted(t *testing.T) {
	want := conversion{isTrue: true, number: 1, textErr: impl.ErrText, numericErr: impl.ErrNumber}
	for _, kind := range otherKinds() {
		for _, n := range []int{0, 1, 2, 7, -1, math.MinInt} {
			for _, s := range []string{"", "0", "12", "x"} {
				checkConverted(t, impl.Value{Kind: kind, Num: n, Str: s}, want)
				checkConverted(t, impl.Value{Kind: kind, Num: n, Str: s, Next: 3, Items: list(impl.IntValue(2)).Items}, want)
			}
		}
	}
}

// TestConversionsGoByTheKind has values with fields that their kinds do not have.
func TestConversionsGoByTheKind(t *testing.T) {
	for _, n := range []int{0, 1, -1, 7, impl.MaxInt + 1, math.MinInt} {
		for _, s := range []string{"", "0", "8", "-8", "8x", "x", "9999999999"} {
			for _, items := range [][]impl.Entry{nil, {}, list(impl.NullValue()).Items, list(impl.IntValue(5), impl.TextValue("6")).Items} {
				for kind := -1; kind <= 10; kind++ {
					for _, next := range []int{0, 1, -3} {
						checkAsModelConverted(t, impl.Value{Kind: kind, Num: n, Str: s, Next: next, Items: items})
					}
				}
			}
		}
	}
	full := impl.Value{Num: 7, Str: "8", Next: 9, Items: list(impl.IntValue(1)).Items}
	for kind, want := range []conversion{
		{},
		{isTrue: true, number: 1, text: "1", numeric: 1},
		{isTrue: true, number: 7, text: "7", numeric: 7},
		{isTrue: true, number: 8, text: "8", numeric: 8},
		{isTrue: true, number: 1, textErr: 1, numericErr: 2},
	} {
		full.Kind = kind
		checkConverted(t, full, want)
	}
}

func TestSmallValuesAreConverted(t *testing.T) {
	for _, v := range smallValues() {
		checkAsModelConverted(t, v)
		checkAsModelConverted(t, list(v))
	}
}

// checkReadBack is the promise for one integer.
func checkReadBack(t *testing.T, n int) {
	t.Helper()
	s, code := impl.ToText(impl.IntValue(n))
	if code != impl.ErrNone || s != strconv.Itoa(n) {
		t.Fatalf("ToText of %d = %q, %d", n, s, code)
	}
	v := impl.TextValue(s)
	got, code := impl.ToNumber(v)
	if code != impl.ErrNone || got != n || impl.LeadingInt(s) != n || impl.ToInt(v) != n || !impl.IsNumeric(s) {
		t.Fatalf("%q is read as %d, %d and %d with the code %d, and numeric is %v", s, got, impl.LeadingInt(s), impl.ToInt(v), code, impl.IsNumeric(s))
	}
	got, code = impl.ToNumber(impl.IntValue(n))
	if code != impl.ErrNone || got != n || impl.ToInt(impl.IntValue(n)) != n {
		t.Fatalf("%d is converted to %d with the code %d, and to %d", n, got, code, impl.ToInt(impl.IntValue(n)))
	}
	// A text that goes on behind the number begins with it all the same.
	if s += "x"; impl.LeadingInt(s) != n || impl.ToInt(impl.TextValue(s)) != n || impl.IsNumeric(s) {
		t.Fatalf("%q is read as %d and %d, and numeric is %v", s, impl.LeadingInt(s), impl.ToInt(impl.TextValue(s)), impl.IsNumeric(s))
	}
}

func TestIntegersAreReadBack(t *testing.T) {
	for n := -100000; n <= 100000; n++ {
		checkReadBack(t, n)
	}
	for d := range 50000 {
		checkReadBack(t, impl.MaxInt-d)
		checkReadBack(t, d-impl.MaxInt)
	}
	for power := 10; power < impl.MaxInt; power *= 10 {
		for digit := 1; digit <= 10; digit++ {
			for d := -20; d <= 20; d++ {
				if n := power*digit + d; n <= impl.MaxInt {
					checkReadBack(t, n)
					checkReadBack(t, -n)
				}
			}
		}
	}
	// The step has no factor in common with a power of ten, so that all last digits occur.
	for n := -impl.MaxInt; n <= impl.MaxInt; n += 6143 {
		checkReadBack(t, n)
	}
	r := rand.New(rand.NewSource(8))
	for range 300000 {
		checkReadBack(t, r.Intn(2*impl.MaxInt+1)-impl.MaxInt)
	}
}

// TestGreaterIntegersAreNotReadBack has integers that no script has: they are written in full, but read as the greatest that there is.
func TestGreaterIntegersAreNotReadBack(t *testing.T) {
	for _, n := range []int{impl.MaxInt + 1, impl.MaxInt + 2, 2 * impl.MaxInt, 10 * impl.MaxInt, 1 << 32, 1<<32 + 5, impl.MaxValue, math.MaxInt - 1, math.MaxInt} {
		for _, sign := range []int{1, -1} {
			s, code := impl.ToText(impl.IntValue(sign * n))
			if code != impl.ErrNone || s != strconv.Itoa(sign*n) {
				t.Errorf("ToText of %d = %q, %d", sign*n, s, code)
			}
			checkLeading(t, s, sign*impl.MaxInt, false)
		}
	}
	s, _ := impl.ToText(impl.IntValue(math.MinInt))
	checkLeading(t, s, -impl.MaxInt, false)
}

// TestNumericTextsAreTheirNumbers has what ToText writes of the number of a numeric text: it is that text without leading zeros, and a zero has no sign.
func TestNumericTextsAreTheirNumbers(t *testing.T) {
	for _, digits := range []string{"0", "1", "9", "42", "1000", "999999999", "1000000000"} {
		for zeros := 0; len(digits)+zeros <= 10; zeros++ {
			for _, sign := range []string{"", "-"} {
				n, code := impl.ToNumber(impl.TextValue(sign + strings.Repeat("0", zeros) + digits))
				want := sign + digits
				if digits == "0" {
					want = digits
				}
				if s, _ := impl.ToText(impl.IntValue(n)); s != want || code != impl.ErrNone {
					t.Errorf("%d zeros and %s%s make %q with the code %d", zeros, sign, digits, s, code)
				}
			}
		}
	}
}

func TestConvertedTextsShareNoMemory(t *testing.T) {
	for _, s := range []string{"1", "0", "x", "12", "7 days", "text", strings.Repeat("a", 400), strings.Repeat("b", 5000)} {
		for kind := -1; kind <= 9; kind++ {
			v := impl.Value{Kind: kind, Num: 1, Str: strings.Clone(s), Items: list(impl.TextValue(strings.Clone(s))).Items}
			given, got := newMemory(), newMemory()
			given.addValue(v)
			text, _ := impl.ToText(v)
			got.addText(text)
			if got.meets(given) {
				t.Errorf("ToText(%s) shares memory with its argument", brief(v))
			}
		}
	}
}

// TestConversionsLeaveTheirArguments has values with memory behind their items.
func TestConversionsLeaveTheirArguments(t *testing.T) {
	for _, v := range append(sharingArguments(), smallValues()...) {
		for kind := -1; kind <= 9; kind++ {
			v.Kind = kind
			before := withSpare(v)
			conversionOf(v)
			if !reflect.DeepEqual(withSpare(v), before) {
				t.Fatalf("the value %s has become %s", brief(before), brief(v))
			}
		}
	}
}

// TestVastValuesAreConverted has values that cannot be gone through: their first items are enough.
func TestVastValuesAreConverted(t *testing.T) {
	values := append(vastValues(), nested(200000, impl.NullValue()), list(nulls(1000000)...))
	for _, v := range values {
		for kind := -1; kind <= 9; kind++ {
			v.Kind = kind
			if got, want := conversionOf(v), modelConversion(v); got != want {
				t.Errorf("a value of the kind %d is converted to %+v; want %+v", kind, got, want)
			}
		}
	}
}

func TestConversionsAreRepeatable(t *testing.T) {
	values := []impl.Value{impl.TextValue("x"), impl.TextValue("12"), impl.ArrayValue(), impl.IntValue(5), impl.BoolValue(true), number(99, 0), impl.NullValue(), impl.TextValue("99999999999")}
	for _, v := range values {
		first := conversionOf(v)
		for _, w := range values {
			conversionOf(w)
			if got := conversionOf(v); got != first {
				t.Errorf("%s is converted to %+v after %s, and to %+v before it", brief(v), got, brief(w), first)
			}
		}
	}
}
