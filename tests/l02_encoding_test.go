package tests

import (
	"bytes"
	"encoding/binary"
	"math"
	"strings"
	"testing"

	"loop.example/g03011/impl"
)

// Promise 2: numbers and texts are read from their encodings.

// encodedNumber is a number and its varint.
type encodedNumber struct {
	n       int
	encoded string
}

func encodedNumbers() []encodedNumber {
	return []encodedNumber{
		{0, "\x00"},
		{1, "\x01"},
		{126, "\x7e"},
		{127, "\x7f"},
		{128, "\x80\x01"},
		{129, "\x81\x01"},
		{255, "\xff\x01"},
		{256, "\x80\x02"},
		{300, "\xac\x02"},
		{1<<14 - 1, "\xff\x7f"},
		{1 << 14, "\x80\x80\x01"},
		{1<<21 - 1, "\xff\xff\x7f"},
		{1 << 21, "\x80\x80\x80\x01"},
		{1<<28 - 1, "\xff\xff\xff\x7f"},
		{1 << 28, "\x80\x80\x80\x80\x01"},
		{impl.MaxInt, "\x80\x94\xeb\xdc\x03"},
		{2 * impl.MaxInt, "\x80\xa8\xd6\xb9\x07"},
		{2*impl.MaxInt + 1, "\x81\xa8\xd6\xb9\x07"},
		{1<<35 - 1, "\xff\xff\xff\xff\x7f"},
		{1 << 35, "\x80\x80\x80\x80\x80\x01"},
		{impl.MaxValue - 1, "\xff\x9f\x94\xa5\x8d\x1d"},
		{impl.MaxValue, "\x80\xa0\x94\xa5\x8d\x1d"},
	}
}

// encodedSigneds has numbers and what AppendSigned writes of them.
func encodedSigneds() []encodedNumber {
	return []encodedNumber{
		{0, "\x00"},
		{-1, "\x01"},
		{1, "\x02"},
		{-2, "\x03"},
		{2, "\x04"},
		{-3, "\x05"},
		{63, "\x7e"},
		{-64, "\x7f"},
		{64, "\x80\x01"},
		{-65, "\x81\x01"},
		{1<<13 - 1, "\xfe\x7f"},
		{-1 << 13, "\xff\x7f"},
		{1 << 13, "\x80\x80\x01"},
		{-1<<13 - 1, "\x81\x80\x01"},
		{1<<27 - 1, "\xfe\xff\xff\x7f"},
		{-1 << 27, "\xff\xff\xff\x7f"},
		{1 << 27, "\x80\x80\x80\x80\x01"},
		{-1<<27 - 1, "\x81\x80\x80\x80\x01"},
		{impl.MaxInt - 1, "\xfe\xa7\xd6\xb9\x07"},
		{-impl.MaxInt + 1, "\xfd\xa7\xd6\xb9\x07"},
		{impl.MaxInt, "\x80\xa8\xd6\xb9\x07"},
		{-impl.MaxInt, "\xff\xa7\xd6\xb9\x07"},
	}
}

func beyondUvarint() []int {
	return []int{-1, -2, -128, -impl.MaxInt, -impl.MaxValue, impl.MaxValue + 1, 2 * impl.MaxValue, 1 << 42, math.MaxInt, math.MinInt}
}

// beyondSigned has numbers whose doubles wrap around into the range of the codes, too.
func beyondSigned() []int {
	return []int{
		impl.MaxInt + 1, -impl.MaxInt - 1, 2 * impl.MaxInt, impl.MaxValue, -impl.MaxValue,
		1 << 62, 1<<62 + 3, -1 << 62, math.MaxInt, math.MaxInt - 1, math.MinInt, math.MinInt + 1,
	}
}

// badVarints has encodings that are rejected wherever they stand at the end of a slice.
func badVarints() []string {
	return []string{
		// Cut off.
		"", "\x80", "\xff", "\x80\x80", "\xff\xff", "\x80\x80\x80", "\x80\x80\x80\x80", "\xff\xff\xff\xff\xff",
		"\x80\xa0\x94\xa5\x8d",
		// Not the shortest form.
		"\x80\x00", "\x81\x00", "\xff\x00", "\x80\x80\x00", "\xac\x82\x00", "\xff\xff\xff\x00",
		"\x80\x80\x80\x80\x00", "\xff\xff\xff\xff\xff\x00", "\x80\x80\x80\x80\x80\x00",
		// Six bytes, greater than MaxValue.
		"\x81\xa0\x94\xa5\x8d\x1d", "\x80\xa1\x94\xa5\x8d\x1d", "\x80\xa0\x94\xa5\x8d\x1e", "\x80\x80\x80\x80\x80\x20",
		"\x80\x80\x80\x80\x80\x40", "\xff\xff\xff\xff\xff\x7f",
		// Six bytes and cut off, and seven and more.
		"\x80\x80\x80\x80\x80\x80", "\x81\x80\x80\x80\x80\x80", "\xff\xff\xff\xff\xff\xff",
		"\x80\x80\x80\x80\x80\x80\x00", "\x81\x80\x80\x80\x80\x80\x00", "\x80\x80\x80\x80\x80\x80\x01",
		"\x80\xa0\x94\xa5\x8d\x9d\x00", "\x81\x80\x80\x80\x80\x80\x80\x00",
		// 128 to the power of 9 and of 10: the digits would fall out of an int.
		"\x85\x80\x80\x80\x80\x80\x80\x80\x80\x01", "\x85\x80\x80\x80\x80\x80\x80\x80\x80\x80\x01",
		"\x85" + strings.Repeat("\x80", 1000) + "\x00",
	}
}

// prefixes are what stands in front of an encoding; some of them could run on into it.
func prefixes() []string {
	return []string{"", "\x07", "\x80", "\xff\xff\xff", "\x02ab", strings.Repeat("\x80", 40)}
}

// badIndexes has indexes outside a slice of that length, and the one at its end.
func badIndexes(length int) []int {
	return []int{length, length + 1, length + 2, length + 100, -1, -2, -length, -length - 1, math.MaxInt, math.MaxInt - 5, math.MinInt, math.MinInt + 1}
}

// codec is AppendUvarint and ReadUvarint, or AppendSigned and ReadSigned, with numbers in its range and numbers beyond it.
type codec struct {
	name    string
	write   func([]byte, int) []byte
	read    func([]byte, int) (int, int, bool)
	written []encodedNumber
	beyond  []int
}

func unsigned() codec {
	return codec{"Uvarint", impl.AppendUvarint, impl.ReadUvarint, encodedNumbers(), beyondUvarint()}
}

func signed() codec {
	return codec{"Signed", impl.AppendSigned, impl.ReadSigned, encodedSigneds(), beyondSigned()}
}

func codecs() []codec {
	return []codec{unsigned(), signed()}
}

func checkBytes(t *testing.T, what string, got []byte, want string) {
	t.Helper()
	if string(got) != want {
		t.Errorf("%s = %q; want %q", what, got, want)
	}
}

func checkNumberRead(t *testing.T, r codec, b string, at, n, next int) {
	t.Helper()
	gotN, gotNext, ok := r.read([]byte(b), at)
	if gotN != n || gotNext != next || !ok {
		t.Errorf("Read%s(%q, %d) = %d, %d, %v; want %d, %d, true", r.name, b, at, gotN, gotNext, ok, n, next)
	}
}

func checkNumberRejected(t *testing.T, r codec, b []byte, at int) {
	t.Helper()
	if n, next, ok := r.read(b, at); n != 0 || next != 0 || ok {
		t.Errorf("Read%s(%q, %d) = %d, %d, %v; want 0, 0, false", r.name, b, at, n, next, ok)
	}
}

func checkTextRead(t *testing.T, b string, at, most int, s string, next int) {
	t.Helper()
	gotS, gotNext, ok := impl.ReadText([]byte(b), at, most)
	if gotS != s || gotNext != next || !ok {
		t.Errorf("ReadText(%q, %d, %d) = %q, %d, %v; want %q, %d, true", b, at, most, gotS, gotNext, ok, s, next)
	}
}

func checkTextRejected(t *testing.T, b []byte, at, most int) {
	t.Helper()
	if s, next, ok := impl.ReadText(b, at, most); s != "" || next != 0 || ok {
		t.Errorf("ReadText(%q, %d, %d) = %q, %d, %v; want \"\", 0, false", b, at, most, s, next, ok)
	}
}

func TestAppendNumbers(t *testing.T) {
	for _, r := range codecs() {
		for _, c := range r.written {
			what := "Append" + r.name + " " + impl.FormatInt(c.n)
			for _, p := range prefixes() {
				checkBytes(t, what, r.write([]byte(p), c.n), p+c.encoded)
			}
			checkBytes(t, what+" to nil", r.write(nil, c.n), c.encoded)
		}
	}
}

func TestAppendNumbersOutsideTheRange(t *testing.T) {
	for _, r := range codecs() {
		for _, n := range r.beyond {
			what := "Append" + r.name + " " + impl.FormatInt(n)
			for _, p := range prefixes() {
				checkBytes(t, what, r.write([]byte(p), n), p)
			}
			checkBytes(t, what+" to nil", r.write(nil, n), "")
		}
	}
}

func TestReadNumbers(t *testing.T) {
	for _, r := range codecs() {
		for _, c := range r.written {
			for _, p := range prefixes() {
				for _, rest := range []string{"", "\x00", "\x01", "\x80", "\xff\xff\xff\xff\xff\xff\xff"} {
					checkNumberRead(t, r, p+c.encoded+rest, len(p), c.n, len(p)+len(c.encoded))
				}
			}
		}
	}
}

// TestReadSignedBeyondItsRange holds codes that are numbers for ReadUvarint, but that AppendSigned does not write.
func TestReadSignedBeyondItsRange(t *testing.T) {
	for _, code := range []int{
		2*impl.MaxInt + 1, 2*impl.MaxInt + 2, 2*impl.MaxInt + 3, 1 << 31, 1 << 32, 1 << 35, 4 * impl.MaxInt, impl.MaxValue - 1, impl.MaxValue,
	} {
		b := impl.AppendUvarint([]byte{9}, code)
		checkNumberRead(t, unsigned(), string(b), 1, code, len(b))
		checkNumberRejected(t, signed(), b, 1)
	}
}

func TestBadVarintsAreRejected(t *testing.T) {
	for _, bad := range badVarints() {
		for _, p := range prefixes() {
			b := []byte(p + bad)
			for _, r := range codecs() {
				checkNumberRejected(t, r, b, len(p))
			}
			checkTextRejected(t, b, len(p), impl.MaxValue)
			checkTextRejected(t, b, len(p), math.MaxInt)
		}
	}
}

// TestLongerFormsAreRejected gives every number all the forms that are longer than the shortest.
func TestLongerFormsAreRejected(t *testing.T) {
	for _, c := range append(encodedNumbers(), encodedSigneds()...) {
		b := []byte(c.encoded)
		for len(b) < 12 {
			b[len(b)-1] |= 0x80
			b = append(b, 0)
			for _, r := range codecs() {
				checkNumberRejected(t, r, b, 0)
			}
			checkTextRejected(t, append(bytes.Clone(b), make([]byte, 300)...), 0, impl.MaxValue)
		}
	}
}

func TestIndexesOutsideTheSlice(t *testing.T) {
	for _, s := range []string{"", "\x00", "\x05", "\x01a", "\x02ab", "\x80\x01", "\x00\x00\x00\x00\x00\x00\x00\x00"} {
		for _, at := range badIndexes(len(s)) {
			if 0 <= at && at < len(s) {
				continue // -length is 0 where there is nothing
			}
			for _, r := range codecs() {
				checkNumberRejected(t, r, []byte(s), at)
			}
			checkTextRejected(t, []byte(s), at, 10)
		}
	}
	for _, at := range badIndexes(0) {
		for _, r := range codecs() {
			checkNumberRejected(t, r, nil, at)
		}
		checkTextRejected(t, nil, at, 10)
	}
}

func TestCutOffEncodings(t *testing.T) {
	for _, r := range codecs() {
		for _, c := range r.written {
			for k := range len(c.encoded) {
				checkNumberRejected(t, r, []byte(c.encoded[:k]), 0)
			}
		}
	}
	for _, s := range texts() {
		b := impl.AppendText(nil, s)
		for k := range len(b) {
			checkTextRejected(t, b[:k:k], 0, impl.MaxValue)
		}
	}
}

// TestSpareCapacityIsNotRead holds encodings that would be complete with what lies behind the slice.
func TestSpareCapacityIsNotRead(t *testing.T) {
	for _, c := range encodedNumbers() {
		whole := []byte("\x07" + c.encoded + "\x00\x00")
		for k := 1; k < 1+len(c.encoded); k++ {
			for _, r := range codecs() {
				checkNumberRejected(t, r, whole[:k], 1)
			}
		}
	}
	for _, s := range texts() {
		whole := append(impl.AppendText([]byte{7}, s), "behind it"...)
		for k := range len(whole) - len("behind it") {
			checkTextRejected(t, whole[:k], 1, impl.MaxValue)
		}
	}
}

func TestWrittenUvarintsAreRead(t *testing.T) {
	r := unsigned()
	for _, m := range []int{
		0, 1 << 7, 1 << 14, 1 << 21, 1 << 28, impl.MaxInt, 1 << 31, 2 * impl.MaxInt, 1 << 32, 1 << 35, impl.MaxValue, 1 << 40, 1 << 42,
	} {
		for d := -300; d <= 300; d++ {
			n := m + d
			b := impl.AppendUvarint([]byte{7}, n)
			if n < 0 || n > impl.MaxValue {
				checkBytes(t, "AppendUvarint", b, "\x07")
				continue
			}
			checkBytes(t, "AppendUvarint", b, string(binary.AppendUvarint([]byte{7}, uint64(n))))
			checkNumberRead(t, r, string(b), 1, n, len(b))
		}
	}
}

func TestWrittenSignedsAreRead(t *testing.T) {
	r := signed()
	for _, m := range []int{
		0, 1 << 6, 1 << 13, 1 << 20, 1 << 27, 1 << 30, impl.MaxInt, 1 << 31, 2 * impl.MaxInt, impl.MaxValue,
		-1 << 6, -1 << 13, -1 << 20, -1 << 27, -1 << 30, -impl.MaxInt, -1 << 31, -2 * impl.MaxInt, -impl.MaxValue,
	} {
		for d := -300; d <= 300; d++ {
			n := m + d
			b := impl.AppendSigned([]byte{7}, n)
			if n < -impl.MaxInt || n > impl.MaxInt {
				checkBytes(t, "AppendSigned", b, "\x07")
				continue
			}
			code := 2 * n
			if n < 0 {
				code = -2*n - 1
			}
			checkBytes(t, "AppendSigned", b, string(impl.AppendUvarint([]byte{7}, code)))
			checkNumberRead(t, r, string(b), 1, n, len(b))
		}
	}
}

// checkAnyBytes holds the readers against the standard library's, and against the rules that its reader does not have.
func checkAnyBytes(t *testing.T, rs []codec, b []byte) {
	t.Helper()
	v, size := binary.Uvarint(b)
	n := int(v)
	// Written again, a number that was not in its shortest form has fewer bytes.
	if size < 1 || size > 6 || v > impl.MaxValue || len(binary.AppendUvarint(nil, v)) != size {
		checkNumberRejected(t, rs[0], b, 0)
		checkNumberRejected(t, rs[1], b, 0)
		return
	}
	checkNumberRead(t, rs[0], string(b), 0, n, size)
	switch {
	case n > 2*impl.MaxInt:
		checkNumberRejected(t, rs[1], b, 0)
	case n%2 == 1:
		checkNumberRead(t, rs[1], string(b), 0, -(n/2)-1, size)
	default:
		checkNumberRead(t, rs[1], string(b), 0, n/2, size)
	}
}

// TestAnyBytes goes through every sequence of up to seven of these bytes, and every sequence of two bytes.
func TestAnyBytes(t *testing.T) {
	rs := codecs()
	sequences := [][]byte{{}}
	for length := 0; length <= 7; length++ {
		var longer [][]byte
		for _, b := range sequences {
			checkAnyBytes(t, rs, b)
			for _, c := range []byte{0, 1, 0x1d, 0x7f, 0x80, 0xff} {
				longer = append(longer, append(bytes.Clone(b), c))
			}
		}
		sequences = longer
	}
	for i := range 1 << 16 {
		checkAnyBytes(t, rs, []byte{byte(i), byte(i >> 8)})
	}
}

func texts() []string {
	return []string{
		"", "a", "ab", "\x00", "\x00\x00", "\x80", "\xff\xff", "\x02ab", "h\u00e9llo", "\u4e16\u754c", "\xc3", "line\nline",
		strings.Repeat("x", 126), strings.Repeat("\x80", 127), strings.Repeat("y", 128), strings.Repeat("\x00", 129),
		strings.Repeat("ab", 1<<13-1), strings.Repeat("z", 1<<14-1), strings.Repeat("\xff", 1<<14), strings.Repeat("w", 1<<14+1),
	}
}

func TestAppendText(t *testing.T) {
	cases := []struct{ s, encoded string }{
		{"", "\x00"},
		{"a", "\x01a"},
		{"ab", "\x02ab"},
		{"\x00", "\x01\x00"},
		{"\xff\x80", "\x02\xff\x80"},
		{"\u00e9", "\x02\xc3\xa9"},
		{strings.Repeat("x", 127), "\x7f" + strings.Repeat("x", 127)},
		{strings.Repeat("x", 128), "\x80\x01" + strings.Repeat("x", 128)},
		{strings.Repeat("x", 300), "\xac\x02" + strings.Repeat("x", 300)},
		{strings.Repeat("x", 1<<14-1), "\xff\x7f" + strings.Repeat("x", 1<<14-1)},
		{strings.Repeat("x", 1<<14), "\x80\x80\x01" + strings.Repeat("x", 1<<14)},
		{strings.Repeat("x", 1<<21), "\x80\x80\x80\x01" + strings.Repeat("x", 1<<21)},
	}
	for _, c := range cases {
		for _, p := range prefixes() {
			checkBytes(t, "AppendText", impl.AppendText([]byte(p), c.s), p+c.encoded)
		}
		checkBytes(t, "AppendText to nil", impl.AppendText(nil, c.s), c.encoded)
	}
}

func TestReadText(t *testing.T) {
	checkTextRead(t, "\x02abc", 0, 2, "ab", 3)
	checkTextRead(t, "\x07\x02abc", 1, 2, "ab", 4)
	checkTextRead(t, "\x02\x01a", 1, 5, "a", 3)
	checkTextRead(t, "\x00", 0, 0, "", 1)
	checkTextRead(t, "\x00", 0, 5, "", 1)
	checkTextRead(t, "\x05\x00\x05", 1, 0, "", 2)
	for _, s := range texts() {
		for _, p := range prefixes() {
			b := string(impl.AppendText([]byte(p), s))
			for _, most := range []int{len(s), len(s) + 1, impl.MaxInt, impl.MaxValue, impl.MaxValue + 1, math.MaxInt} {
				checkTextRead(t, b, len(p), most, s, len(b))
				checkTextRead(t, b+"\x00rest", len(p), most, s, len(b))
			}
		}
	}
}

func TestReadTextKeepsToItsMost(t *testing.T) {
	for _, s := range texts() {
		b := impl.AppendText([]byte{7}, s)
		for _, most := range []int{len(s) - 1, len(s) - 2, -1, -2, -128, -impl.MaxValue, math.MinInt} {
			checkTextRejected(t, b, 1, most)
		}
	}
}

// TestReadTextOfGreatLengths holds lengths that no slice has.
func TestReadTextOfGreatLengths(t *testing.T) {
	for _, length := range []int{4, 5, 127, 128, impl.MaxInt, 1 << 31, 1 << 32, 1<<32 + 1, impl.MaxValue} {
		b := append(impl.AppendUvarint([]byte{7}, length), "abc"...)
		for _, most := range []int{3, length, impl.MaxValue, math.MaxInt} {
			checkTextRejected(t, b, 1, most)
		}
	}
}

func TestEncodingsInARow(t *testing.T) {
	var b []byte
	for _, c := range encodedNumbers() {
		b = impl.AppendUvarint(b, c.n)
		b = impl.AppendText(b, c.encoded)
	}
	for _, c := range encodedSigneds() {
		b = impl.AppendSigned(b, c.n)
	}
	at := 0
	for _, c := range encodedNumbers() {
		checkNumberRead(t, unsigned(), string(b), at, c.n, at+len(c.encoded))
		at += len(c.encoded)
		checkTextRead(t, string(b), at, 6, c.encoded, at+1+len(c.encoded))
		at += 1 + len(c.encoded)
	}
	for _, c := range encodedSigneds() {
		checkNumberRead(t, signed(), string(b), at, c.n, at+len(c.encoded))
		at += len(c.encoded)
	}
	if at != len(b) {
		t.Errorf("%d bytes read of %d", at, len(b))
	}
}

// appenders has calls that append something and calls that append nothing.
func appenders() map[string]func([]byte) []byte {
	return map[string]func([]byte) []byte{
		"AppendUvarint 5":            func(b []byte) []byte { return impl.AppendUvarint(b, 5) },
		"AppendUvarint MaxValue":     func(b []byte) []byte { return impl.AppendUvarint(b, impl.MaxValue) },
		"AppendUvarint MaxValue + 1": func(b []byte) []byte { return impl.AppendUvarint(b, impl.MaxValue+1) },
		"AppendUvarint -1":           func(b []byte) []byte { return impl.AppendUvarint(b, -1) },
		"AppendSigned -5":            func(b []byte) []byte { return impl.AppendSigned(b, -5) },
		"AppendSigned MaxInt":        func(b []byte) []byte { return impl.AppendSigned(b, impl.MaxInt) },
		"AppendSigned MaxInt + 1":    func(b []byte) []byte { return impl.AppendSigned(b, impl.MaxInt+1) },
		"AppendSigned -MaxInt - 1":   func(b []byte) []byte { return impl.AppendSigned(b, -impl.MaxInt-1) },
		"AppendText empty":           func(b []byte) []byte { return impl.AppendText(b, "") },
		"AppendText ab":              func(b []byte) []byte { return impl.AppendText(b, "ab") },
		"AppendText long":            func(b []byte) []byte { return impl.AppendText(b, strings.Repeat("x", 500)) },
	}
}

// overwrite writes into a slice and all of its spare capacity.
func overwrite(b []byte, c byte) {
	b = b[:cap(b)]
	for i := range b {
		b[i] = c
	}
}

// TestAppendedSlicesAreNew gives slices without spare capacity, with a little, and with more than enough.
func TestAppendedSlicesAreNew(t *testing.T) {
	for name, call := range appenders() {
		for _, length := range []int{0, 1, 3, 40} {
			for _, spare := range []int{0, 1, 2, 8, 600} {
				whole := bytes.Repeat([]byte{0x55}, length+spare)
				before := bytes.Clone(whole)
				first := call(whole[:length])
				if !bytes.Equal(whole, before) {
					t.Errorf("%s changes its argument of length %d with %d spare bytes", name, length, spare)
				}
				want := bytes.Clone(first)
				second := call(whole[:length])
				overwrite(whole, 0x66)
				overwrite(second, 0x77)
				if !bytes.Equal(first, want) {
					t.Errorf("%s: results share memory with the argument or with each other", name)
				}
				overwrite(first, 0x88)
				if !bytes.Equal(whole, bytes.Repeat([]byte{0x66}, length+spare)) {
					t.Errorf("%s: writing into a result changes the argument", name)
				}
			}
		}
	}
}

func TestReadTextSharesNoMemory(t *testing.T) {
	for _, s := range texts() {
		whole := append(impl.AppendText([]byte{7}, s), "behind it"...)
		b := whole[:len(whole)-len("behind it")]
		before := bytes.Clone(whole)
		got, _, ok := impl.ReadText(b, 1, len(s))
		if !bytes.Equal(whole, before) {
			t.Errorf("ReadText changes its argument %q", before)
		}
		overwrite(whole, 0x66)
		if got != s || !ok {
			t.Errorf("after its argument has been overwritten, the text is %q; want %q", got, s)
		}
	}
}

func TestReadingChangesNothing(t *testing.T) {
	for _, s := range append(badVarints(), "\x00", "\x02ab", "\x80\x01", "\x80\xa8\xd6\xb9\x07", "\x80\xa0\x94\xa5\x8d\x1d") {
		whole := []byte(s + "behind it")
		b := whole[:len(s)]
		for at := -1; at <= len(s)+1; at++ {
			impl.ReadUvarint(b, at)
			impl.ReadSigned(b, at)
			impl.ReadText(b, at, impl.MaxValue)
		}
		if string(whole) != s+"behind it" {
			t.Errorf("reading has changed %q to %q", s+"behind it", whole)
		}
	}
}

// TestEncodingsAreRepeatable checks that nothing is kept from call to call.
func TestEncodingsAreRepeatable(t *testing.T) {
	for name, call := range appenders() {
		first := string(call([]byte("ab")))
		for range 3 {
			call([]byte{0x80, 0x80})
			checkBytes(t, name, call([]byte("ab")), first)
		}
	}
}
