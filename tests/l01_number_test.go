package tests

import (
	"math"
	"strconv"
	"strings"
	"testing"

	"loop.example/g03011/impl"
)

// Promise 1: integers are read from their decimal form.

// parser is ParseInt or ParseSigned together with the range that it accepts.
type parser struct {
	name      string
	parse     func(string) (int, bool)
	low, high int
}

func parsers() []parser {
	return []parser{
		{"ParseInt", impl.ParseInt, 0, 1000000000000},
		{"ParseSigned", impl.ParseSigned, -1000000000, 1000000000},
	}
}

func checkRead(t *testing.T, p parser, s string, want int) {
	t.Helper()
	if n, ok := p.parse(s); n != want || !ok {
		t.Errorf("%s(%q) = %d, %v; want %d, true", p.name, s, n, ok, want)
	}
}

func checkRejected(t *testing.T, p parser, s string) {
	t.Helper()
	if n, ok := p.parse(s); n != 0 || ok {
		t.Errorf("%s(%q) = %d, %v; want 0, false", p.name, s, n, ok)
	}
}

func TestNumberLimits(t *testing.T) {
	if impl.MaxInt != 1000000000 || impl.MaxValue != 1000000000000 {
		t.Error(impl.MaxInt, impl.MaxValue)
	}
}

func TestFormatInt(t *testing.T) {
	cases := []struct {
		n    int
		want string
	}{
		{0, "0"},
		{1, "1"},
		{-1, "-1"},
		{7, "7"},
		{10, "10"},
		{-10, "-10"},
		{905, "905"},
		{-5000, "-5000"},
		{impl.MaxInt, "1000000000"},
		{-impl.MaxInt, "-1000000000"},
		{impl.MaxInt + 1, "1000000001"},
		{impl.MaxValue, "1000000000000"},
		{-impl.MaxValue, "-1000000000000"},
		{math.MaxInt, "9223372036854775807"},
		{math.MinInt, "-9223372036854775808"},
	}
	for _, c := range cases {
		if got := impl.FormatInt(c.n); got != c.want {
			t.Errorf("FormatInt(%d) = %q; want %q", c.n, got, c.want)
		}
	}
}

func TestParseIntBounds(t *testing.T) {
	p := parsers()[0]
	checkRead(t, p, "0", 0)
	checkRead(t, p, "1", 1)
	checkRead(t, p, "42", 42)
	checkRead(t, p, "1000000000", 1000000000)
	checkRead(t, p, "1000000001", 1000000001)
	checkRead(t, p, "999999999999", 999999999999)
	checkRead(t, p, "1000000000000", 1000000000000)
	for _, s := range []string{"1000000000001", "-1", "-42", "-1000000000", "-1000000000000"} {
		checkRejected(t, p, s)
	}
}

func TestParseSignedBounds(t *testing.T) {
	p := parsers()[1]
	checkRead(t, p, "0", 0)
	checkRead(t, p, "1", 1)
	checkRead(t, p, "-1", -1)
	checkRead(t, p, "-42", -42)
	checkRead(t, p, "999999999", 999999999)
	checkRead(t, p, "1000000000", 1000000000)
	checkRead(t, p, "-1000000000", -1000000000)
	for _, s := range []string{"1000000001", "-1000000001", "1000000000000", "-1000000000000"} {
		checkRejected(t, p, s)
	}
}

func TestParseRejectsOtherForms(t *testing.T) {
	forms := []string{
		"", " ", "-", "+", "--1", "+-1", "-+1", "1-", "1+",
		"-0", "+0", "+1", "00", "05", "007", "-01", "-007", "-00", "0001000000000",
		" 1", "1 ", "\t1", "1\n", "1\x00", "\x001", "1 2",
		"x", "1x", "x1", "0x1", "0b1", "0o7", "1_000", "_1", "1e3", "1.0", "1.", ".5", "1,000",
		"\u0661", "\uff11", "\u22121", "\xff", "1\xff", "Inf", "NaN", "nil", "true",
	}
	for _, p := range parsers() {
		for _, s := range forms {
			checkRejected(t, p, s)
		}
	}
}

func TestParseRejectsLongTexts(t *testing.T) {
	texts := []string{
		"10000000000000",
		"9223372036854775807", "9223372036854775808",
		"-9223372036854775808", "-9223372036854775809",
		// 2 to the power of 64, and a little more: they would wrap around to small numbers.
		"18446744073709551615", "18446744073709551616", "18446744073709551617",
		"-18446744073709551615", "-18446744073709551617",
		"36893488147419103233",
		strings.Repeat("9", 100), "-" + strings.Repeat("9", 100),
		"1" + strings.Repeat("0", 100000), "-1" + strings.Repeat("0", 100000),
		strings.Repeat("0", 100000), strings.Repeat("0", 100000) + "1",
	}
	for _, p := range parsers() {
		for _, s := range texts {
			checkRejected(t, p, s)
		}
	}
}

// checkNumber holds the parsers against a number: they read it just if it is in their range.
func checkNumber(t *testing.T, n int) {
	t.Helper()
	s := impl.FormatInt(n)
	if s != strconv.Itoa(n) {
		t.Errorf("FormatInt(%d) = %q", n, s)
	}
	for _, p := range parsers() {
		if p.low <= n && n <= p.high {
			checkRead(t, p, s, n)
		} else {
			checkRejected(t, p, s)
		}
	}
}

func TestWrittenNumbersAreRead(t *testing.T) {
	middles := []int{
		0, 1000, 1000000, impl.MaxInt, -impl.MaxInt, 1 << 31, -1 << 31, 1 << 32,
		impl.MaxValue, -impl.MaxValue, math.MaxInt - 300, math.MinInt + 300,
	}
	for _, m := range middles {
		for d := -300; d <= 300; d++ {
			checkNumber(t, m+d)
		}
	}
	for n := 1; n < math.MaxInt/10; n *= 10 {
		checkNumber(t, n)
		checkNumber(t, -n)
		checkNumber(t, n-1)
	}
}

// TestShortTexts goes through every text of up to four of these characters:
// a text is accepted just if some number in the range is written like that.
func TestShortTexts(t *testing.T) {
	written := map[string]int{}
	for n := -9999; n <= 9999; n++ {
		written[strconv.Itoa(n)] = n
	}
	texts := []string{""}
	for length := 0; length <= 4; length++ {
		var longer []string
		for _, s := range texts {
			n, ok := written[s]
			for _, p := range parsers() {
				if ok && n >= p.low {
					checkRead(t, p, s, n)
				} else {
					checkRejected(t, p, s)
				}
			}
			for _, c := range "+-0159_ x." {
				longer = append(longer, s+string(c))
			}
		}
		texts = longer
	}
}

func TestMinMax(t *testing.T) {
	cases := []struct{ a, b, min, max int }{
		{0, 0, 0, 0},
		{1, 2, 1, 2},
		{2, 1, 1, 2},
		{2, -3, -3, 2},
		{-3, 2, -3, 2},
		{-1, -2, -2, -1},
		{-4, -4, -4, -4},
		{math.MinInt, math.MaxInt, math.MinInt, math.MaxInt},
		{math.MaxInt, math.MinInt, math.MinInt, math.MaxInt},
		{math.MinInt, 1, math.MinInt, 1},
		{-1, math.MaxInt, -1, math.MaxInt},
	}
	for _, c := range cases {
		if got := impl.Min(c.a, c.b); got != c.min {
			t.Errorf("Min(%d, %d) = %d; want %d", c.a, c.b, got, c.min)
		}
		if got := impl.Max(c.a, c.b); got != c.max {
			t.Errorf("Max(%d, %d) = %d; want %d", c.a, c.b, got, c.max)
		}
	}
}

func TestMod(t *testing.T) {
	cases := []struct{ n, m, want int }{
		{-1, 7, 6},
		{0, 7, 0},
		{6, 7, 6},
		{7, 7, 0},
		{8, 7, 1},
		{-7, 7, 0},
		{-8, 7, 6},
		{-6, 7, 1},
		{5, 1, 0},
		{-5, 1, 0},
		{-1, 2147483647, 2147483646},
		{impl.MaxValue - 1, impl.MaxValue, impl.MaxValue - 1},
		{impl.MaxValue, impl.MaxValue, 0},
		{impl.MaxValue + 1, impl.MaxValue, 1},
		{-1, impl.MaxValue, impl.MaxValue - 1},
		{math.MaxInt, 2, 1},
		{math.MaxInt, impl.MaxValue, 36854775807},
		{math.MinInt, impl.MaxValue, 963145224192},
		{math.MinInt, 10, 2},
		{math.MinInt, 1, 0},
	}
	for _, c := range cases {
		if got := impl.Mod(c.n, c.m); got != c.want {
			t.Errorf("Mod(%d, %d) = %d; want %d", c.n, c.m, got, c.want)
		}
	}
}

func TestModOutsideItsRange(t *testing.T) {
	moduli := []int{0, -1, -7, -impl.MaxValue, impl.MaxValue + 1, 2 * impl.MaxValue, math.MaxInt, math.MinInt}
	numbers := []int{0, 1, -1, 5, -5, impl.MaxValue, -impl.MaxValue, math.MaxInt, math.MinInt}
	for _, m := range moduli {
		for _, n := range numbers {
			if got := impl.Mod(n, m); got != 0 {
				t.Errorf("Mod(%d, %d) = %d; want 0", n, m, got)
			}
		}
	}
}

func TestModIsTheRemainder(t *testing.T) {
	for m := 1; m <= 40; m++ {
		want := 0
		for n := -10 * m; n <= 10*m; n++ {
			if got := impl.Mod(n, m); got != want {
				t.Errorf("Mod(%d, %d) = %d; want %d", n, m, got, want)
			}
			want++
			if want == m {
				want = 0
			}
		}
	}
}

func TestInRange(t *testing.T) {
	cases := []struct {
		n, low, high int
		want         bool
	}{
		{0, 0, 0, true},
		{2, 2, 2, true},
		{1, 2, 2, false},
		{3, 2, 2, false},
		{1, 1, 3, true},
		{2, 1, 3, true},
		{3, 1, 3, true},
		{0, 1, 3, false},
		{4, 1, 3, false},
		{-2, -3, -1, true},
		{-4, -3, -1, false},
		{0, -3, -1, false},
		{0, 2, 1, false},
		{1, 2, 1, false},
		{2, 2, 1, false},
		{3, 2, 1, false},
		{1, 2, 0, false},
		{0, math.MaxInt, math.MinInt, false},
		{math.MaxInt, math.MaxInt, math.MinInt, false},
		{math.MinInt, math.MaxInt, math.MinInt, false},
		{0, math.MinInt, math.MaxInt, true},
		{math.MinInt, math.MinInt, math.MaxInt, true},
		{math.MaxInt, math.MinInt, math.MaxInt, true},
		{math.MinInt, math.MinInt + 1, math.MaxInt, false},
		{math.MaxInt, math.MinInt, math.MaxInt - 1, false},
	}
	for _, c := range cases {
		if got := impl.InRange(c.n, c.low, c.high); got != c.want {
			t.Errorf("InRange(%d, %d, %d) = %v; want %v", c.n, c.low, c.high, got, c.want)
		}
	}
}
