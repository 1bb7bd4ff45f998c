package impl

import "strconv"

const (
	MaxInt   = 1000000000
	MaxValue = 1000000000000
)

func FormatInt(n int) string {
	return strconv.Itoa(n)
}

func ParseInt(s string) (int, bool) {
	return parseWithin(s, 0, MaxValue)
}

func ParseSigned(s string) (int, bool) {
	return parseWithin(s, -MaxInt, MaxInt)
}

func parseWithin(s string, low int, high int) (int, bool) {
	n, err := strconv.Atoi(s)
	// Atoi also reads forms that FormatInt never writes, such as "+1", "-0" and "05".
	if err != nil || FormatInt(n) != s || !InRange(n, low, high) {
		return 0, false
	}
	return n, true
}

func Min(a int, b int) int {
	return min(a, b)
}

func Max(a int, b int) int {
	return max(a, b)
}

func Mod(n int, m int) int {
	if !InRange(m, 1, MaxValue) {
		return 0
	}
	r := n % m
	if r < 0 {
		r += m
	}
	return r
}

func InRange(n int, low int, high int) bool {
	return low <= n && n <= high
}
