package tests

import (
	"math"
	"math/big"
	"slices"
	"strconv"
	"strings"
	"testing"

	"loop.example/g03011/impl"
)

// Promise 3: digests follow every value.

// numberDigest is a list of numbers and its digest.
type numberDigest struct {
	l    []int
	want int
}

func numberDigests() []numberDigest {
	return []numberDigest{
		{nil, 11},
		{[]int{}, 11},
		{[]int{0}, 11000046},
		{[]int{1}, 11000047},
		{[]int{5}, 11000051},
		{[]int{impl.Modulus - 1}, 11000045},
		{[]int{impl.Modulus}, 11000046},
		{[]int{impl.Modulus + 1}, 11000047},
		{[]int{2 * impl.Modulus}, 11000046},
		{[]int{2*impl.Modulus + 5}, 11000051},
		{[]int{impl.MaxValue}, 1431104191},
		{[]int{math.MaxInt}, 11000047},
		{[]int{-1}, 11000045},
		{[]int{-impl.Modulus + 1}, 11000047},
		{[]int{-impl.Modulus}, 11000046},
		{[]int{-impl.Modulus - 1}, 11000045},
		{[]int{-2*impl.Modulus - 1}, 11000045},
		{[]int{-impl.MaxValue}, 738379548},
		{[]int{math.MinInt + 1}, 11000045},
		{[]int{math.MinInt}, 11000044},
		{[]int{0, 0}, 667760217},
		{[]int{1, 2}, 668760222},
		{[]int{2, 1}, 669760224},
		{[]int{-1, -2, -3}, 752141851},
		{[]int{1, 2, 3, 4, 5, 6, 7, 8}, 787941277},
		// The least and the greatest digest.
		{[]int{2136483601}, 0},
		{[]int{-11000046}, 0},
		{[]int{2136483600}, impl.Modulus - 1},
	}
}

// textDigest is a text and its digest.
type textDigest struct {
	s    string
	want int
}

func textDigests() []textDigest {
	return []textDigest{
		{"", 11},
		{"\x00", 11000046},
		{"a", 11000143},
		{"ab", 764760606},
		{"ba", 765760608},
		{"hello, world", 20135327},
		{"\x7f", 11000173},
		// Bytes of 128 and above in valid UTF-8: an e with an accent, the replacement character, two of three bytes, one of four.
		{"\xc3\xa9", 862760971},
		{"\xef\xbf\xbd", 1760239709},
		{"\xe6\x97\xa5\xe6\x9c\xac", 1260454958},
		{"\xf0\x9f\x98\x80", 363298911},
		// Bytes of 128 and above that are not: alone, cut off, a surrogate, and around a valid character.
		{"\x80", 11000174},
		{"\xff", 11000301},
		{"a\xc3", 764760703},
		{"\xe6\x97", 897761058},
		{"\xf0\x9f\x98", 1006860083},
		{"\xed\xa0\x80", 1024514894},
		{"\x80\xc3\xa9\x80", 741124331},
	}
}

// bigDigest computes the digest as the document words it, with numbers that cannot wrap around.
func bigDigest(l []int) int {
	modulus := big.NewInt(2147483647)
	digest := big.NewInt(11)
	for _, v := range l {
		digest.Mul(digest, big.NewInt(1000003))
		// Mod of package big is never negative, also for a negative v.
		digest.Add(digest, new(big.Int).Mod(big.NewInt(int64(v)), modulus))
		digest.Add(digest, big.NewInt(13))
		digest.Mod(digest, modulus)
	}
	return int(digest.Int64())
}

func bytesAsNumbers(s string) []int {
	var l []int
	for i := 0; i < len(s); i++ {
		l = append(l, int(s[i]))
	}
	return l
}

// unlikeNumbers has numbers of every size and sign.
func unlikeNumbers() []int {
	l := []int{0, 1, -1, impl.Modulus - 1, impl.Modulus, impl.Modulus + 1, -impl.Modulus, math.MaxInt, math.MinInt}
	for shift := range 63 {
		l = append(l, 1<<shift, -1<<shift, 3-1<<shift)
	}
	return l
}

func checkDigest(t *testing.T, what string, got, want int) {
	t.Helper()
	if got != want {
		t.Errorf("%s = %d; want %d", what, got, want)
	}
}

func TestModulus(t *testing.T) {
	if impl.Modulus != 2147483647 {
		t.Error(impl.Modulus)
	}
}

func TestHash(t *testing.T) {
	for _, c := range numberDigests() {
		if got := impl.Hash(c.l); got != c.want {
			t.Errorf("Hash(%v) = %d; want %d", c.l, got, c.want)
		}
	}
}

func TestHashOfOneNumber(t *testing.T) {
	for _, v := range unlikeNumbers() {
		checkDigest(t, "Hash of "+strconv.Itoa(v), impl.Hash([]int{v}), bigDigest([]int{v}))
	}
}

func TestHashOfPrefixes(t *testing.T) {
	l := unlikeNumbers()
	for i := range len(l) + 1 {
		got := impl.Hash(l[:i])
		checkDigest(t, "Hash of the first "+strconv.Itoa(i), got, bigDigest(l[:i]))
		if got < 0 || got >= impl.Modulus {
			t.Errorf("the digest %d of the first %d numbers is out of range", got, i)
		}
	}
}

func TestHashTakesNumbersModuloModulus(t *testing.T) {
	for v := -20; v <= 20; v++ {
		want := impl.Hash([]int{3, v, 4})
		for _, times := range []int{-1000, -2, -1, 1, 2, 1000} {
			checkDigest(t, "Hash of a number moved by a multiple of Modulus", impl.Hash([]int{3, v + times*impl.Modulus, 4}), want)
		}
	}
}

// The multiplier has an inverse modulo Modulus, so a number that is changed by less than Modulus changes the digest for certain.
func TestEveryNumberChangesTheDigest(t *testing.T) {
	l := make([]int, 1000)
	for i := range l {
		l[i] = i*i - 500*i
	}
	whole := impl.Hash(l)
	checkDigest(t, "Hash of the long list", whole, bigDigest(l))
	for i := range l {
		for _, change := range []int{1, -1, impl.Modulus - 1, -l[i] - 7000000} {
			changed := slices.Clone(l)
			changed[i] += change
			if impl.Hash(changed) == whole {
				t.Errorf("changing number %d by %d leaves the digest as it was", i, change)
			}
		}
	}
}

func TestHashFollowsOrderAndLength(t *testing.T) {
	seen := map[int][]int{}
	lists := [][]int{nil, {0}, {0, 0}, {0, 0, 0}, {1}, {0, 1}, {1, 0}, {1, 1}, {1, 2, 3}, {3, 2, 1}, {2, 1, 3}, {1, 2}, {12, 3}, {1, 23}, {123}}
	for _, l := range lists {
		digest := impl.Hash(l)
		if other, ok := seen[digest]; ok {
			t.Errorf("%v and %v both have the digest %d", l, other, digest)
		}
		seen[digest] = l
	}
}

func TestHashText(t *testing.T) {
	for _, c := range textDigests() {
		if got := impl.HashText(c.s); got != c.want {
			t.Errorf("HashText(%q) = %d; want %d", c.s, got, c.want)
		}
	}
}

func checkTextDigest(t *testing.T, s string) {
	t.Helper()
	got := impl.HashText(s)
	if l := bytesAsNumbers(s); got != bigDigest(l) || got != impl.Hash(l) {
		t.Errorf("HashText(%q) = %d; want %d, and Hash of the bytes is %d", s, got, bigDigest(l), impl.Hash(l))
	}
}

// All pairs of bytes, alone and within a text: characters that are valid, cut off, or none.
func TestHashTextOfAnyBytes(t *testing.T) {
	for a := range 256 {
		checkTextDigest(t, string([]byte{byte(a)}))
		for b := range 256 {
			pair := string([]byte{byte(a), byte(b)})
			for _, s := range []string{pair, "x" + pair, pair + "\x80\x80y", "\xe6" + pair} {
				if got := impl.HashText(s); got != impl.Hash(bytesAsNumbers(s)) {
					t.Fatalf("HashText(%q) = %d; want %d", s, got, impl.Hash(bytesAsNumbers(s)))
				}
			}
		}
	}
}

func TestHashTextOfLongTexts(t *testing.T) {
	for _, part := range []string{"a", "ab\x00", "\xc3\xa9", "\xe6\x97\xa5", "\xf0\x9f\x98\x80x", "\x80", "\xff\xc3", "\xe6\x97", "\xef\xbf\xbd"} {
		s := strings.Repeat(part, 500)
		checkTextDigest(t, s)
		checkTextDigest(t, s+"z")
		checkTextDigest(t, s+"\xf0\x9f")
		if impl.HashText(s) == impl.HashText(s[:len(s)-1]) {
			t.Errorf("the last byte of a text of %q does not count", part)
		}
	}
}

// A byte that is no character is not taken for the replacement character, nor one such byte for another.
func TestHashTextTellsInvalidBytesApart(t *testing.T) {
	seen := map[int]int{impl.HashText("\xef\xbf\xbd"): -1, impl.HashText(""): -2}
	for b := range 256 {
		digest := impl.HashText(string([]byte{byte(b)}))
		if other, ok := seen[digest]; ok {
			t.Errorf("byte %d has the digest of %d", b, other)
		}
		seen[digest] = b
	}
}

func TestKeyedHash(t *testing.T) {
	cases := []struct {
		key  int
		l    []int
		want int
	}{
		{0, nil, 667760217},
		{3, nil, 670760229},
		{3, []int{}, 670760229},
		{3, []int{4}, 20107550},
		{7, []int{1, 2, 3}, 1633700111},
		{-1, nil, 666760213},
		{impl.Modulus, []int{4}, 36762379},
		{math.MaxInt, nil, 668760221},
		{math.MinInt, []int{1, 2}, 1931232765},
	}
	for _, c := range cases {
		if got := impl.KeyedHash(c.key, c.l); got != c.want {
			t.Errorf("KeyedHash(%d, %v) = %d; want %d", c.key, c.l, got, c.want)
		}
	}
}

func TestKeyedHashIsTheHashBetweenKeys(t *testing.T) {
	for _, key := range unlikeNumbers() {
		for _, c := range numberDigests() {
			sequence := slices.Concat([]int{key}, c.l, []int{key})
			checkDigest(t, "KeyedHash with "+strconv.Itoa(key), impl.KeyedHash(key, c.l), bigDigest(sequence))
		}
	}
}

func TestKeyStandsBeforeAndBehind(t *testing.T) {
	l := []int{4, 5, 6}
	got := impl.KeyedHash(9, l)
	for _, other := range [][]int{{4, 5, 6}, {9, 4, 5, 6}, {4, 5, 6, 9}, {9, 9, 4, 5, 6}, {4, 5, 6, 9, 9}, {9, 4, 5, 6, 0}, {0, 4, 5, 6, 9}} {
		if got == impl.Hash(other) {
			t.Errorf("KeyedHash(9, %v) is the Hash of %v", l, other)
		}
	}
	checkDigest(t, "KeyedHash(9, l)", got, impl.Hash([]int{9, 4, 5, 6, 9}))
}

func TestHexText(t *testing.T) {
	cases := []struct {
		n    int
		want string
	}{
		{0, "00000000"},
		{1, "00000001"},
		{9, "00000009"},
		{10, "0000000a"},
		{15, "0000000f"},
		{16, "00000010"},
		{255, "000000ff"},
		{11000051, "00a7d8f3"},
		{0x0abcdef1, "0abcdef1"},
		{0x12345678, "12345678"},
		{impl.MaxInt, "3b9aca00"},
		{impl.Modulus - 1, "7ffffffe"},
		{impl.Modulus, "7fffffff"},
	}
	for _, c := range cases {
		if got := impl.HexText(c.n); got != c.want {
			t.Errorf("HexText(%d) = %q; want %q", c.n, got, c.want)
		}
	}
}

func TestHexTextOutsideTheRange(t *testing.T) {
	for _, n := range []int{
		-1, -2, -255, -impl.Modulus, -impl.Modulus - 1, math.MinInt, math.MinInt + 1,
		impl.Modulus + 1, impl.Modulus + 2, 2 * impl.Modulus, 1<<32 - 1, 1 << 32, 1<<32 + 5, impl.MaxValue, math.MaxInt,
	} {
		if got := impl.HexText(n); got != "" {
			t.Errorf("HexText(%d) = %q; want the empty text", n, got)
		}
	}
}

func TestHexTextHasEightLowerCaseDigits(t *testing.T) {
	for n := 0; n <= impl.Modulus; n += 1234567 {
		s := impl.HexText(n)
		if len(s) != 8 || strings.Trim(s, "0123456789abcdef") != "" {
			t.Errorf("HexText(%d) = %q", n, s)
		}
		if read, err := strconv.ParseInt(s, 16, 64); err != nil || int(read) != n {
			t.Errorf("HexText(%d) = %q, which is %d", n, s, read)
		}
	}
}

// A list that is handed in stays as it is, and so does what lies behind it in its memory.
func TestDigestsLeaveTheirListsAsTheyWere(t *testing.T) {
	memory := []int{-1, impl.Modulus, math.MinInt, 7, -2, -3, -4}
	before := slices.Clone(memory)
	for i := range len(memory) + 1 {
		impl.Hash(memory[:i])
		impl.KeyedHash(-9, memory[:i])
		if !slices.Equal(memory, before) {
			t.Fatalf("the digest of the first %d numbers made the memory %v", i, memory)
		}
	}
}

func TestDigestsAreRepeatable(t *testing.T) {
	l := unlikeNumbers()
	first, text, keyed := impl.Hash(l), impl.HashText("ab\xff"), impl.KeyedHash(-5, l)
	impl.Hash([]int{1})
	impl.HashText("b")
	impl.KeyedHash(6, nil)
	checkDigest(t, "Hash again", impl.Hash(l), first)
	checkDigest(t, "HashText again", impl.HashText("ab\xff"), text)
	checkDigest(t, "KeyedHash again", impl.KeyedHash(-5, l), keyed)
}
