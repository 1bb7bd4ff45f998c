package tests

import (
	"fmt"
	"math"
	"math/rand"
	"reflect"
	"runtime/debug"
	"slices"
	"strconv"
	"strings"
	"testing"

	"loop.example/g03011/impl"
)

// Promise 7: a hash table is the array that it stands for.

func slot(k impl.Key, v impl.Value) impl.Slot {
	return impl.Slot{Key: k, Val: v, Live: true, Link: -1}
}

func deadSlot(k impl.Key) impl.Slot {
	return impl.Slot{Key: k, Link: -1}
}

func modelCount(slots []impl.Slot) int {
	count := 0
	for _, s := range slots {
		if s.Live {
			count++
		}
	}
	return count
}

func linkedSlot(k impl.Key, v impl.Value, link int) impl.Slot {
	return impl.Slot{Key: k, Val: v, Live: true, Link: link}
}

func packedTable(next int, slots ...impl.Slot) impl.Table {
	return impl.Table{Slots: slots, Next: next, Count: modelCount(slots)}
}

// hashedTable sets the heads and the links by their definition.
func hashedTable(size, next int, slots ...impl.Slot) impl.Table {
	return relinked(impl.Table{Hashed: true, Heads: make([]int, size), Slots: slots, Next: next, Count: modelCount(slots)})
}

// inRow has live slots with the keys 0, 1, 2 and so on.
func inRow(count int) []impl.Slot {
	var slots []impl.Slot
	for i := range count {
		slots = append(slots, slot(intKey(i), impl.IntValue(i+100)))
	}
	return slots
}

// inBucket has live slots with keys that lie in the bucket 0, whatever the size is.
func inBucket(count int) []impl.Slot {
	var slots []impl.Slot
	for i := range count {
		slots = append(slots, slot(intKey((count-i)*1024), impl.IntValue(i)))
	}
	return slots
}

// without has some of the slots deleted.
func without(t impl.Table, indexes ...int) impl.Table {
	t.Slots = slices.Clone(t.Slots)
	for _, i := range indexes {
		t.Slots[i].Live = false
		t.Slots[i].Val = impl.Value{}
	}
	t.Count = modelCount(t.Slots)
	return t
}

func modelKeyHash(k impl.Key) int {
	if k.Text {
		return bigDigest(bytesAsNumbers(k.Str))
	}
	return ((k.Num % 2147483647) + 2147483647) % 2147483647
}

// relinked looks back, for each slot and for each bucket, for the last slot in the bucket.
func relinked(t impl.Table) impl.Table {
	size := len(t.Heads)
	buckets := make([]int, len(t.Slots))
	for i, s := range t.Slots {
		buckets[i] = modelKeyHash(s.Key) % size
	}
	last := func(before, bucket int) int {
		for i := before - 1; i >= 0; i-- {
			if buckets[i] == bucket {
				return i
			}
		}
		return -1
	}
	t.Heads, t.Slots = slices.Clone(t.Heads), slices.Clone(t.Slots)
	for i, bucket := range buckets {
		t.Slots[i].Link = last(i, bucket)
	}
	for bucket := range t.Heads {
		t.Heads[bucket] = last(len(t.Slots), bucket)
	}
	return t
}

func modelIsTable(t impl.Table) bool {
	most := min(t.Next, 1024)
	if t.Hashed {
		most = len(t.Heads)
	}
	isSize := slices.Contains([]int{8, 16, 32, 64, 128, 256, 512, 1024}, len(t.Heads))
	if t.Hashed && !isSize || !t.Hashed && len(t.Heads) > 0 || len(t.Slots) > most || t.Next < 0 || t.Next > 1000000001 {
		return false
	}
	for i, s := range t.Slots {
		if !modelIsKey(s.Key) || !s.Key.Text && s.Key.Num >= t.Next || !s.Live && !isSame(s.Val, impl.Value{}) {
			return false
		}
		if !t.Hashed && (s.Key != intKey(i) || s.Link != -1) {
			return false
		}
		for _, before := range t.Slots[:i] {
			if s.Live && before.Live && s.Key == before.Key {
				return false
			}
		}
	}
	return t.Count == modelCount(t.Slots) && (!t.Hashed || isSameTable(t, relinked(t)))
}

func modelFindSlot(t impl.Table, k impl.Key) int {
	if !modelIsTable(t) {
		return -1
	}
	return slices.IndexFunc(t.Slots, func(s impl.Slot) bool { return s.Live && s.Key == k })
}

func modelRebuild(t impl.Table) impl.Table {
	if !modelIsTable(t) || t.Count >= 1024 {
		return t
	}
	size := 8
	for size <= t.Count {
		size += size
	}
	live := slices.DeleteFunc(slices.Clone(t.Slots), func(s impl.Slot) bool { return !s.Live })
	return hashedTable(size, t.Next, live...)
}

func modelTableSet(t impl.Table, k impl.Key, v impl.Value) (impl.Table, bool) {
	if !modelIsTable(t) || !modelIsKey(k) {
		return t, false
	}
	if i := modelFindSlot(t, k); i >= 0 {
		t.Slots = slices.Clone(t.Slots)
		t.Slots[i].Val = v
		return t, true
	}
	if t.Count == 1024 {
		return t, false
	}
	isNext := k == intKey(len(t.Slots)) && len(t.Slots) < 1024
	if !t.Hashed && !isNext || t.Hashed && len(t.Slots) == len(t.Heads) {
		t = modelRebuild(t)
	}
	next := t.Next
	if !k.Text && k.Num >= next {
		next = k.Num + 1
	}
	slots := append(slices.Clone(t.Slots), slot(k, v))
	if t.Hashed {
		return hashedTable(len(t.Heads), next, slots...), true
	}
	return packedTable(next, slots...), true
}

func modelTableDelete(t impl.Table, k impl.Key) impl.Table {
	if i := modelFindSlot(t, k); i >= 0 {
		return without(t, i)
	}
	return t
}

func modelTableValue(t impl.Table) impl.Value {
	v := array(t.Next)
	for _, s := range t.Slots {
		if s.Live {
			v.Items = append(v.Items, entry(s.Key, s.Val))
		}
	}
	return v
}

// isSameTable compares all fields at any depth. Nil and empty lists are the same.
func isSameTable(a, b impl.Table) bool {
	isSameSlot := func(s, r impl.Slot) bool {
		return s.Key == r.Key && s.Live == r.Live && s.Link == r.Link && isSame(s.Val, r.Val)
	}
	return a.Hashed == b.Hashed && a.Next == b.Next && a.Count == b.Count && slices.Equal(a.Heads, b.Heads) && slices.EqualFunc(a.Slots, b.Slots, isSameSlot)
}

func briefTable(t impl.Table) string {
	if len(t.Slots) > 10 {
		return fmt.Sprintf("a table (Hashed %v) of %d heads and %d slots with the Next %d and the Count %d", t.Hashed, len(t.Heads), len(t.Slots), t.Next, t.Count)
	}
	return fmt.Sprintf("%.800s", fmt.Sprintf("%+v", t))
}

func checkSameTable(t *testing.T, what string, got, want impl.Table) {
	t.Helper()
	if !isSameTable(got, want) {
		t.Errorf("%s = %s; want %s", what, briefTable(got), briefTable(want))
	}
}

func checkIsTable(t *testing.T, table impl.Table, want bool) {
	t.Helper()
	if got := impl.IsTable(table); got != want {
		t.Errorf("IsTable(%s) = %v; want %v", briefTable(table), got, want)
	}
}

func checkSlotFound(t *testing.T, table impl.Table, k impl.Key, want int) {
	t.Helper()
	if got := impl.FindSlot(table, k); got != want {
		t.Errorf("FindSlot(%s, %s) = %d; want %d", briefTable(table), briefKey(k), got, want)
	}
}

func checkTableSet(t *testing.T, table impl.Table, k impl.Key, v impl.Value, want impl.Table, wantOK bool) {
	t.Helper()
	if got, ok := impl.TableSet(table, k, v); ok != wantOK || !isSameTable(got, want) {
		t.Errorf("TableSet(%s, %s, %s) = %s, %v; want %s, %v", briefTable(table), briefKey(k), brief(v), briefTable(got), ok, briefTable(want), wantOK)
	}
}

func checkTableDeleted(t *testing.T, table impl.Table, k impl.Key, want impl.Table) {
	t.Helper()
	if got := impl.TableDelete(table, k); !isSameTable(got, want) {
		t.Errorf("TableDelete(%s, %s) = %s; want %s", briefTable(table), briefKey(k), briefTable(got), briefTable(want))
	}
}

func checkRebuilt(t *testing.T, table, want impl.Table) {
	t.Helper()
	if got := impl.Rebuild(table); !isSameTable(got, want) {
		t.Errorf("Rebuild(%s) = %s; want %s", briefTable(table), briefTable(got), briefTable(want))
	}
}

func checkTableValue(t *testing.T, table impl.Table, want impl.Value) {
	t.Helper()
	if got := impl.TableValue(table); !isSame(got, want) {
		t.Errorf("TableValue(%s) = %s; want %s", briefTable(table), brief(got), brief(want))
	}
}

func checkTableOf(t *testing.T, v impl.Value, want impl.Table, wantOK bool) {
	t.Helper()
	if got, ok := impl.TableOf(v); ok != wantOK || !isSameTable(got, want) {
		t.Errorf("TableOf(%s) = %s, %v; want %s, %v", brief(v), briefTable(got), ok, briefTable(want), wantOK)
	}
}

// checkAsModelTable checks every function with a table, sound or not.
func checkAsModelTable(t *testing.T, table impl.Table, keys []impl.Key) {
	t.Helper()
	x := list(impl.TextValue("new"))
	checkIsTable(t, table, modelIsTable(table))
	checkRebuilt(t, table, modelRebuild(table))
	checkTableValue(t, table, modelTableValue(table))
	for _, k := range keys {
		checkSlotFound(t, table, k, modelFindSlot(table, k))
		want, ok := modelTableSet(table, k, x)
		checkTableSet(t, table, k, x, want, ok)
		checkTableDeleted(t, table, k, modelTableDelete(table, k))
	}
}

// checkFallbacks checks what every function gives back for a table that is none.
func checkFallbacks(t *testing.T, table impl.Table) {
	t.Helper()
	checkIsTable(t, table, false)
	checkRebuilt(t, table, table)
	checkTableValue(t, table, modelTableValue(table))
	keys := []impl.Key{intKey(0), intKey(1), intKey(len(table.Slots)), intKey(-1), strKey("a"), strKey("new"), strKey("5")}
	for _, s := range table.Slots[:min(len(table.Slots), 20)] {
		keys = append(keys, s.Key)
	}
	for _, k := range keys {
		checkSlotFound(t, table, k, -1)
		checkTableSet(t, table, k, impl.IntValue(9), table, false)
		checkTableDeleted(t, table, k, table)
	}
}

// mixedSlots has keys of both kinds, dead slots before and behind live ones, keys that were deleted and set again, and several slots in one bucket.
func mixedSlots() []impl.Slot {
	return []impl.Slot{
		slot(intKey(5), impl.IntValue(50)), deadSlot(strKey("a")), slot(intKey(13), list(impl.TextValue("deep"))), deadSlot(intKey(21)),
		slot(strKey(""), impl.NullValue()), slot(intKey(-3), impl.BoolValue(true)), slot(strKey("a"), impl.TextValue("A")), deadSlot(intKey(21)),
	}
}

// smallTables has sound tables of few slots.
func smallTables() []impl.Table {
	mixed := mixedSlots()
	return []impl.Table{
		{}, {Next: 5}, {Next: impl.MaxInt + 1}, packedTable(1, inRow(1)...), packedTable(3, inRow(3)...), packedTable(9, inRow(3)...),
		without(packedTable(3, inRow(3)...), 0), without(packedTable(3, inRow(3)...), 1), without(packedTable(3, inRow(3)...), 2), without(packedTable(7, inRow(3)...), 0, 1, 2),
		packedTable(8, inRow(8)...), packedTable(impl.MaxInt+1, inRow(2)...),
		hashedTable(8, 0), hashedTable(16, impl.MaxInt+1), hashedTable(8, 3, inRow(3)...), hashedTable(8, 8, inRow(8)...), hashedTable(16, 9, inRow(8)...),
		hashedTable(8, 22, mixed...), hashedTable(16, 22, mixed...), hashedTable(16, 100, append(mixed, deadSlot(strKey("a")))...), hashedTable(8, 22, mixed[:4]...),
		without(hashedTable(8, 8, inRow(8)...), 0, 1, 2, 3, 4, 5, 6, 7), without(hashedTable(8, 8, inRow(8)...), 3, 7),
		hashedTable(8, 8193, inBucket(8)...), without(hashedTable(8, 8193, inBucket(8)...), 0, 7), hashedTable(16, 16385, inBucket(12)...),
		hashedTable(8, impl.MaxInt+1, slot(intKey(impl.MaxInt), impl.IntValue(1)), slot(intKey(-impl.MaxInt), impl.IntValue(2))),
		hashedTable(8, impl.MaxInt+1, deadSlot(intKey(impl.MaxInt)), slot(strKey(strings.Repeat("k", 400)), impl.IntValue(2))),
	}
}

// largeTables has sound tables of up to 1024 slots.
func largeTables() []impl.Table {
	return []impl.Table{
		packedTable(1023, inRow(1023)...), packedTable(1024, inRow(1024)...), without(packedTable(1024, inRow(1024)...), 7), without(packedTable(2000, inRow(1024)...), 0, 1023),
		hashedTable(1024, 1024, inRow(1023)...), hashedTable(1024, 1024, inRow(1024)...), without(hashedTable(1024, 1024, inRow(1024)...), 1023),
		hashedTable(1024, 0), hashedTable(512, 512, inRow(512)...), hashedTable(1024, 1048577, inBucket(1024)...), without(hashedTable(64, 64, inRow(64)...), inRange(2, 64)...),
	}
}

func inRange(low, high int) []int {
	var l []int
	for i := low; i < high; i++ {
		l = append(l, i)
	}
	return l
}

// tableKeys has keys that are in the tables, keys that are not, and what is no key.
func tableKeys() []impl.Key {
	return append(lookAlikes(),
		intKey(1), intKey(2), intKey(3), intKey(7), intKey(8), intKey(13), intKey(21), intKey(22), intKey(-1), intKey(-3), intKey(1023), intKey(1024), intKey(1025), intKey(8192),
		intKey(impl.MaxInt), intKey(-impl.MaxInt), strKey("b"), strKey(strings.Repeat("k", 400)), strKey("05"), strKey("-3"), impl.Key{Num: 1, Str: "1"}, impl.Key{Text: true, Num: 1, Str: "a"})
}

func TestTableConstants(t *testing.T) {
	if impl.MinTable != 8 || impl.MaxTable != 1024 {
		t.Errorf("MinTable is %d, MaxTable %d", impl.MinTable, impl.MaxTable)
	}
}

func TestKeyHash(t *testing.T) {
	for _, c := range textDigests() {
		checkDigest(t, fmt.Sprintf("KeyHash of the string key %q", c.s), impl.KeyHash(strKey(c.s)), c.want)
		// Whatever else the key has does not count, and a text that is written as an integer is a text here.
		checkDigest(t, "KeyHash of a string key with a Num", impl.KeyHash(impl.Key{Text: true, Num: 5, Str: c.s}), c.want)
	}
	for _, s := range []string{"0", "5", "-1", strings.Repeat("z", 400), strings.Repeat("z", 401), strings.Repeat("\xff", 5000)} {
		checkDigest(t, fmt.Sprintf("KeyHash of the string key %.20q", s), impl.KeyHash(strKey(s)), bigDigest(bytesAsNumbers(s)))
	}
	for _, c := range []struct{ n, want int }{
		{0, 0}, {1, 1}, {7, 7}, {8, 8}, {-1, 2147483646}, {-8, 2147483639}, {impl.MaxInt, 1000000000}, {-impl.MaxInt, 1147483647},
		{2147483646, 2147483646}, {2147483647, 0}, {2147483648, 1}, {-2147483646, 1}, {-2147483647, 0}, {-2147483648, 2147483646}, {4294967296, 2},
		{math.MaxInt, 1}, {math.MinInt, 2147483645},
	} {
		checkDigest(t, fmt.Sprintf("KeyHash of the integer key %d", c.n), impl.KeyHash(intKey(c.n)), c.want)
		checkDigest(t, fmt.Sprintf("KeyHash of the integer key %d with a Str", c.n), impl.KeyHash(impl.Key{Num: c.n, Str: "a"}), c.want)
	}
	for _, n := range unlikeNumbers() {
		checkDigest(t, fmt.Sprintf("KeyHash of the integer key %d", n), impl.KeyHash(intKey(n)), modelKeyHash(intKey(n)))
	}
}

func TestNewTable(t *testing.T) {
	checkSameTable(t, "NewTable()", impl.NewTable(), impl.Table{})
	checkIsTable(t, impl.NewTable(), true)
	for _, k := range tableKeys() {
		checkSlotFound(t, impl.NewTable(), k, -1)
		checkTableDeleted(t, impl.NewTable(), k, impl.Table{})
	}
	checkTableValue(t, impl.NewTable(), impl.ArrayValue())
	checkRebuilt(t, impl.NewTable(), impl.Table{Hashed: true, Heads: []int{-1, -1, -1, -1, -1, -1, -1, -1}})
}

// TestBuiltUpTable has every field of a table written out. By their hashes the keys 3, "" and 11 lie in the bucket 3 of 8, and "a" and -1 in the buckets 7 and 6.
func TestBuiltUpTable(t *testing.T) {
	one, two := impl.IntValue(1), list(impl.TextValue("x"))
	table, _ := impl.TableSet(impl.NewTable(), intKey(0), one)
	checkSameTable(t, "one slot", table, impl.Table{Slots: []impl.Slot{linkedSlot(intKey(0), one, -1)}, Next: 1, Count: 1})
	table, _ = impl.TableSet(table, intKey(1), two)
	checkSameTable(t, "two slots", table, impl.Table{Slots: []impl.Slot{linkedSlot(intKey(0), one, -1), linkedSlot(intKey(1), two, -1)}, Next: 2, Count: 2})
	table = impl.TableDelete(table, intKey(0))
	checkSameTable(t, "one deleted", table, impl.Table{Slots: []impl.Slot{deadSlot(intKey(0)), linkedSlot(intKey(1), two, -1)}, Next: 2, Count: 1})
	table, _ = impl.TableSet(table, intKey(3), one)
	want := impl.Table{Hashed: true, Heads: []int{-1, 0, -1, 1, -1, -1, -1, -1}, Slots: []impl.Slot{linkedSlot(intKey(1), two, -1), linkedSlot(intKey(3), one, -1)}, Next: 4, Count: 2}
	checkSameTable(t, "hashed", table, want)
	for _, k := range []impl.Key{strKey(""), strKey("a"), intKey(-1), intKey(11)} {
		table, _ = impl.TableSet(table, k, one)
	}
	want = impl.Table{Hashed: true, Heads: []int{-1, 0, -1, 5, -1, -1, 4, 3}, Slots: []impl.Slot{
		linkedSlot(intKey(1), two, -1), linkedSlot(intKey(3), one, -1), linkedSlot(strKey(""), one, 1), linkedSlot(strKey("a"), one, -1), linkedSlot(intKey(-1), one, -1), linkedSlot(intKey(11), one, 2),
	}, Next: 12, Count: 6}
	checkSameTable(t, "six slots", table, want)
	table = impl.TableDelete(table, strKey(""))
	want.Slots[2].Live, want.Slots[2].Val, want.Count = false, impl.Value{}, 5
	checkSameTable(t, "the middle of a chain deleted", table, want)
	checkSlotFound(t, table, intKey(3), 1)
	table, _ = impl.TableSet(table, strKey(""), two)
	want.Slots = append(want.Slots, impl.Slot{Key: strKey(""), Val: two, Live: true, Link: 5})
	want.Heads[3], want.Count = 6, 6
	checkSameTable(t, "set again", table, want)
	want = impl.Table{Hashed: true, Heads: []int{-1, 0, -1, 5, -1, -1, 3, 2}, Slots: []impl.Slot{
		linkedSlot(intKey(1), two, -1), linkedSlot(intKey(3), one, -1), linkedSlot(strKey("a"), one, -1), linkedSlot(intKey(-1), one, -1), linkedSlot(intKey(11), one, 1), linkedSlot(strKey(""), two, 4),
	}, Next: 12, Count: 6}
	checkRebuilt(t, table, want)
}

func TestSoundTables(t *testing.T) {
	for _, table := range append(smallTables(), largeTables()...) {
		if !modelIsTable(table) {
			t.Errorf("the model does not know %s", briefTable(table))
		}
		checkIsTable(t, table, true)
		// Empty lists are the same as nil.
		if len(table.Heads) == 0 {
			table.Heads = []int{}
		}
		if len(table.Slots) == 0 {
			table.Slots = []impl.Slot{}
		}
		checkIsTable(t, table, true)
	}
}

func TestEveryFunctionOfSmallTables(t *testing.T) {
	for _, table := range smallTables() {
		checkAsModelTable(t, table, tableKeys())
	}
}

func TestEveryFunctionOfLargeTables(t *testing.T) {
	for _, table := range largeTables() {
		checkAsModelTable(t, table, []impl.Key{intKey(0), intKey(7), intKey(1023), intKey(1024), intKey(-1), strKey("a"), strKey("1"), intKey(impl.MaxInt + 1)})
	}
}

// TestValuesOfLiveSlotsAreNotLookedAt has values in them that are not valid.
func TestValuesOfLiveSlotsAreNotLookedAt(t *testing.T) {
	for _, v := range append(otherValues(), list(nulls(500)...), impl.TextValue(strings.Repeat("x", 1000)), array(-7, entry(strKey("5"), impl.NullValue()))) {
		packed := packedTable(2, slot(intKey(0), v), slot(intKey(1), v))
		hashed := hashedTable(8, 9, slot(intKey(8), v), slot(strKey("a"), v), slot(intKey(0), v))
		for _, table := range []impl.Table{packed, hashed} {
			checkAsModelTable(t, table, []impl.Key{intKey(0), intKey(1), intKey(2), strKey("a")})
			checkTableSet(t, table, intKey(0), v, table, true)
			added, ok := modelTableSet(table, intKey(2), v)
			checkTableSet(t, table, intKey(2), v, added, ok)
		}
	}
}

// brokenTable is a table for which IsTable is false, for one reason alone.
type brokenTable struct {
	reason string
	table  impl.Table
}

// brokenSizes has tables whose lists are too long, too short or not there.
func brokenSizes() []brokenTable {
	headed := packedTable(3, inRow(3)...)
	headed.Heads = []int{-1}
	full := packedTable(0)
	full.Heads = []int{-1, -1, -1, -1, -1, -1, -1, -1}
	broken := []brokenTable{
		{"a packed table has heads", headed},
		{"a packed table without slots has heads", full},
		{"a packed table has more slots than Next", packedTable(2, inRow(3)...)},
		{"a packed table has a slot and the Next 0", packedTable(0, inRow(1)...)},
		{"a packed table has more slots than MaxTable", packedTable(2000, inRow(1025)...)},
		{"a packed table has more dead slots than MaxTable", without(packedTable(2000, inRow(1025)...), inRange(0, 1025)...)},
		{"a hashed table has no heads", impl.Table{Hashed: true, Heads: []int{}}},
		{"a hashed table has nil as heads", impl.Table{Hashed: true}},
		{"more slots than the size", hashedTable(8, 9, inRow(9)...)},
		{"more slots than the size, one of them not live", without(hashedTable(8, 9, inRow(9)...), 4)},
		{"more slots than the size, all in one bucket", hashedTable(16, 1<<20, inBucket(17)...)},
		{"more slots than the greatest size", hashedTable(1024, 2000, inRow(1025)...)},
	}
	for _, size := range []int{1, 2, 4, 7, 9, 10, 12, 15, 17, 24, 1000, 1023, 1025, 1536, 2048, 4096} {
		broken = append(broken, brokenTable{"an empty table of the size " + strconv.Itoa(size), hashedTable(size, 5)})
		broken = append(broken, brokenTable{"a table of the size " + strconv.Itoa(size), hashedTable(size, 14, slot(intKey(13), impl.IntValue(1)))})
	}
	return broken
}

// brokenLinks has, for each slot and each bucket of some tables, all wrong indexes.
func brokenLinks() []brokenTable {
	var broken []brokenTable
	wrong := []int{-2, -1, 0, 1, 2, 3, 4, 5, 6, 7, 8, 9, 100, 1 << 32, 1<<32 - 1, math.MaxInt, math.MinInt}
	for _, table := range []impl.Table{packedTable(2, inRow(2)...), without(packedTable(2, inRow(2)...), 1), hashedTable(8, 22, mixedSlots()...), without(hashedTable(16, 16385, inBucket(6)...), 1, 4)} {
		for _, n := range wrong {
			for i := range table.Slots {
				changed := table
				changed.Slots = slices.Clone(table.Slots)
				changed.Slots[i].Link = n
				if n != table.Slots[i].Link {
					broken = append(broken, brokenTable{fmt.Sprintf("the slot %d has the Link %d", i, n), changed})
				}
			}
			for i := range table.Heads {
				changed := table
				changed.Heads = slices.Clone(table.Heads)
				changed.Heads[i] = n
				if n != table.Heads[i] {
					broken = append(broken, brokenTable{fmt.Sprintf("the bucket %d has the head %d", i, n), changed})
				}
			}
		}
	}
	return broken
}

// brokenNumbers has tables with a wrong Count or Next.
func brokenNumbers() []brokenTable {
	var broken []brokenTable
	for _, table := range []impl.Table{{}, packedTable(2, inRow(2)...), without(packedTable(2, inRow(2)...), 0), hashedTable(8, 5), hashedTable(8, 22, mixedSlots()...)} {
		for _, n := range []int{-1, table.Count - 1, table.Count + 1, len(table.Slots) + 1, 1024, math.MaxInt, math.MinInt} {
			changed := table
			changed.Count = n
			broken = append(broken, brokenTable{"the Count is " + strconv.Itoa(n), changed})
		}
		for _, n := range []int{impl.MaxInt + 2, 1 << 32, math.MaxInt} {
			changed := table
			changed.Next = n
			broken = append(broken, brokenTable{"the Next is " + strconv.Itoa(n), changed})
		}
	}
	for _, n := range []int{-1, -impl.MaxInt, math.MinInt} {
		broken = append(broken, brokenTable{"a Next below 0", packedTable(n)}, brokenTable{"a hashed table with a Next below 0", hashedTable(8, n, slot(strKey("a"), impl.IntValue(1)))})
	}
	above := []impl.Slot{slot(intKey(5), impl.IntValue(1)), slot(intKey(9), impl.IntValue(2)), slot(strKey("a"), impl.IntValue(3))}
	return append(broken,
		brokenTable{"a live key is Next", hashedTable(8, 9, above...)},
		brokenTable{"a live key is greater than Next", hashedTable(8, 6, above...)},
		brokenTable{"a dead key is Next", without(hashedTable(8, 9, above...), 1)},
		brokenTable{"a dead key is greater than Next", without(hashedTable(8, 8, above...), 1)},
		brokenTable{"the key 0 is Next", hashedTable(8, 0, slot(intKey(0), impl.IntValue(1)))},
		brokenTable{"the greatest key is Next", hashedTable(8, impl.MaxInt, slot(intKey(impl.MaxInt), impl.IntValue(1)))},
	)
}

// brokenSlots has tables with wrong keys, with keys that two slots have, and with values where none may be.
func brokenSlots() []brokenTable {
	var broken []brokenTable
	for _, k := range []impl.Key{
		intKey(-impl.MaxInt - 1), intKey(math.MinInt), {Num: 1, Str: "a"}, {Str: "0"}, strKey("0"), strKey("5"), strKey("-1000000000"), {Text: true, Num: 1, Str: "a"}, {Text: true, Num: -1}, strKey(strings.Repeat("a", 401)),
	} {
		table := hashedTable(8, 5, slot(intKey(2), impl.IntValue(1)), slot(k, impl.IntValue(2)), slot(strKey("b"), impl.IntValue(3)))
		broken = append(broken, brokenTable{"a live key is none", table}, brokenTable{"a dead key is none", without(table, 1)})
	}
	for _, k := range []impl.Key{intKey(0), intKey(2), intKey(3), intKey(-1), strKey("a"), strKey(""), strKey("1"), {Num: 1, Str: "1"}, {Text: true, Num: 1}} {
		table := packedTable(5, inRow(3)...)
		table.Slots[1].Key = k
		broken = append(broken, brokenTable{"a packed slot has another key", table}, brokenTable{"a dead packed slot has another key", without(table, 1)})
	}
	one, two := impl.IntValue(1), impl.IntValue(2)
	for _, k := range []impl.Key{intKey(0), intKey(3), intKey(-3), strKey("a"), strKey("")} {
		broken = append(broken,
			brokenTable{"two live slots have one key", hashedTable(8, 4, slot(k, one), slot(k, two))},
			brokenTable{"two live slots have one key, with others in between", hashedTable(8, 12, slot(intKey(1), one), slot(k, one), slot(intKey(11), one), deadSlot(k), slot(strKey("b"), two), slot(k, one))})
	}
	for _, v := range []impl.Value{impl.BoolValue(false), impl.IntValue(0), impl.TextValue(""), impl.ArrayValue(), number(5, 0), number(-1, 0), {Num: 1}, {Num: -1}, {Str: "x"}, {Next: 1}, {Next: -1}, {Items: list(impl.NullValue()).Items}} {
		for _, table := range []impl.Table{without(packedTable(3, inRow(3)...), 1), hashedTable(8, 22, mixedSlots()...)} {
			table.Slots = slices.Clone(table.Slots)
			table.Slots[1].Val = v
			broken = append(broken, brokenTable{"a dead slot has the value " + brief(v), table})
		}
	}
	return broken
}

func TestTablesThatAreNone(t *testing.T) {
	for _, broken := range slices.Concat(brokenSizes(), brokenLinks(), brokenNumbers(), brokenSlots()) {
		if modelIsTable(broken.table) {
			t.Errorf("%s: the model knows %s", broken.reason, briefTable(broken.table))
		}
		if impl.IsTable(broken.table) {
			t.Errorf("%s: IsTable(%s) is true", broken.reason, briefTable(broken.table))
		}
		checkFallbacks(t, broken.table)
	}
}

// neighbours has tables that differ from a table in one place.
func neighbours(table impl.Table) []impl.Table {
	var changed []impl.Table
	change := func(edit func(t *impl.Table)) {
		own := table
		own.Heads, own.Slots = slices.Clone(table.Heads), slices.Clone(table.Slots)
		edit(&own)
		changed = append(changed, own)
	}
	for _, n := range []int{-1, 0, table.Next - 1, table.Next + 1, 1024, impl.MaxInt, impl.MaxInt + 1, impl.MaxInt + 2} {
		change(func(t *impl.Table) { t.Next = n })
	}
	change(func(t *impl.Table) { t.Count-- })
	change(func(t *impl.Table) { t.Count++ })
	change(func(t *impl.Table) { t.Hashed = !t.Hashed })
	change(func(t *impl.Table) { t.Heads = append(t.Heads, -1) })
	change(func(t *impl.Table) { t.Heads = append(t.Heads, t.Heads...) })
	change(func(t *impl.Table) { t.Heads = t.Heads[len(t.Heads)/2:] })
	change(func(t *impl.Table) { t.Slots = append(t.Slots, t.Slots...) })
	for i := range table.Heads {
		change(func(t *impl.Table) { t.Heads[i]-- })
		change(func(t *impl.Table) { t.Heads[i]++ })
	}
	for i, s := range table.Slots {
		change(func(t *impl.Table) { t.Slots[i].Link-- })
		change(func(t *impl.Table) { t.Slots[i].Link++ })
		change(func(t *impl.Table) { t.Slots[i].Live = !s.Live })
		change(func(t *impl.Table) { t.Slots[i].Val = impl.IntValue(1) })
		change(func(t *impl.Table) { t.Slots[i].Val = impl.Value{} })
		change(func(t *impl.Table) { t.Slots = append(t.Slots, s) })
		change(func(t *impl.Table) { t.Slots = append(t.Slots[:i], t.Slots[i+1:]...) })
		change(func(t *impl.Table) { t.Slots[0], t.Slots[i] = t.Slots[i], t.Slots[0] })
		for _, k := range []impl.Key{intKey(0), intKey(s.Key.Num + 8), intKey(s.Key.Num + 1), strKey("a"), strKey(s.Key.Str + "b"), {Num: s.Key.Num, Str: "x"}, {Text: true, Num: 1, Str: s.Key.Str}} {
			change(func(t *impl.Table) { t.Slots[i].Key = k })
		}
	}
	return changed
}

func TestNeighboursOfSmallTables(t *testing.T) {
	for _, table := range smallTables() {
		for _, changed := range neighbours(table) {
			checkAsModelTable(t, changed, []impl.Key{intKey(0), strKey("a")})
		}
	}
}

func TestFindSlot(t *testing.T) {
	for _, table := range smallTables() {
		for i, s := range table.Slots {
			if s.Live {
				checkSlotFound(t, table, s.Key, i)
			}
		}
	}
	for _, table := range largeTables() {
		for i := 0; i < len(table.Slots); i += 31 {
			if table.Slots[i].Live {
				checkSlotFound(t, table, table.Slots[i].Key, i)
			}
		}
	}
	mixed := hashedTable(8, 22, mixedSlots()...)
	// The first slot of "a" is deleted, and so are both slots of 21.
	checkSlotFound(t, mixed, strKey("a"), 6)
	checkSlotFound(t, mixed, intKey(21), -1)
	checkSlotFound(t, mixed, intKey(13), 2)
	checkSlotFound(t, mixed, intKey(29), -1)
	checkSlotFound(t, without(packedTable(3, inRow(3)...), 1), intKey(1), -1)
	checkSlotFound(t, without(packedTable(3, inRow(3)...), 1), intKey(2), 2)
	checkSlotFound(t, packedTable(9, inRow(3)...), intKey(3), -1)
}

// TestFindSlotInFullTables has chains of every length up to the greatest.
func TestFindSlotInFullTables(t *testing.T) {
	for count := range 40 {
		slots := inBucket(count)
		table := without(hashedTable(64, 1<<20, slots...), inRange(0, count/2)...)
		for i, s := range slots {
			want := i
			if i < count/2 {
				want = -1
			}
			checkSlotFound(t, table, s.Key, want)
		}
		checkSlotFound(t, table, intKey(0), -1)
		checkSlotFound(t, table, intKey((count+1)*1024), -1)
	}
}

func TestPackedTablesBecomeHashed(t *testing.T) {
	x := list(impl.TextValue("new"))
	packed := packedTable(3, inRow(3)...)
	checkTableSet(t, packed, intKey(3), x, packedTable(4, append(inRow(3), slot(intKey(3), x))...), true)
	for _, k := range []impl.Key{intKey(4), intKey(100), intKey(impl.MaxInt)} {
		checkTableSet(t, packed, k, x, hashedTable(8, k.Num+1, append(inRow(3), slot(k, x))...), true)
	}
	for _, k := range []impl.Key{intKey(-1), intKey(-impl.MaxInt), strKey(""), strKey("a"), strKey("03")} {
		checkTableSet(t, packed, k, x, hashedTable(8, 3, append(inRow(3), slot(k, x))...), true)
	}
	// The key is the number of slots, not Next.
	checkTableSet(t, packedTable(9, inRow(3)...), intKey(3), x, packedTable(9, append(inRow(3), slot(intKey(3), x))...), true)
	checkTableSet(t, packedTable(9, inRow(3)...), intKey(9), x, hashedTable(8, 10, append(inRow(3), slot(intKey(9), x))...), true)
	checkTableSet(t, impl.Table{}, intKey(1), x, hashedTable(8, 2, slot(intKey(1), x)), true)
	checkTableSet(t, impl.Table{Next: 7}, intKey(0), x, packedTable(7, slot(intKey(0), x)), true)
	checkTableSet(t, impl.Table{Next: 7}, strKey("a"), x, hashedTable(8, 7, slot(strKey("a"), x)), true)
	checkTableSet(t, packedTable(7, inRow(7)...), strKey("a"), x, hashedTable(8, 7, append(inRow(7), slot(strKey("a"), x))...), true)
	checkTableSet(t, packedTable(8, inRow(8)...), strKey("a"), x, hashedTable(16, 8, append(inRow(8), slot(strKey("a"), x))...), true)
}

func TestDeletedPackedSlotIsSetAgain(t *testing.T) {
	x := list(impl.TextValue("new"))
	for i := range 3 {
		rest := slices.Delete(inRow(3), i, i+1)
		table := impl.TableDelete(packedTable(3, inRow(3)...), intKey(i))
		checkSameTable(t, "TableDelete", table, without(packedTable(3, inRow(3)...), i))
		checkTableSet(t, table, intKey(i), x, hashedTable(8, 3, append(rest, slot(intKey(i), x))...), true)
		// The dead slots still count for the key that comes next.
		checkTableSet(t, table, intKey(3), x, packedTable(4, append(table.Slots, slot(intKey(3), x))...), true)
		checkTableSet(t, table, strKey("a"), x, hashedTable(8, 3, append(rest, slot(strKey("a"), x))...), true)
	}
	gone := without(packedTable(3, inRow(3)...), 0, 1, 2)
	checkTableSet(t, gone, intKey(3), x, packedTable(4, append(gone.Slots, slot(intKey(3), x))...), true)
	checkTableSet(t, gone, intKey(0), x, hashedTable(8, 3, slot(intKey(0), x)), true)
}

func TestPackedTablesOfMaxTable(t *testing.T) {
	x := impl.TextValue("new")
	full := packedTable(1024, inRow(1024)...)
	checkTableSet(t, packedTable(1023, inRow(1023)...), intKey(1023), x, packedTable(1024, append(inRow(1023), slot(intKey(1023), x))...), true)
	checkTableSet(t, packedTable(1023, inRow(1023)...), strKey("a"), x, hashedTable(1024, 1023, append(inRow(1023), slot(strKey("a"), x))...), true)
	for _, k := range []impl.Key{intKey(1024), intKey(-1), intKey(5000), strKey("a")} {
		checkTableSet(t, full, k, x, full, false)
	}
	changed := packedTable(1024, inRow(1024)...)
	changed.Slots[1023].Val = x
	checkTableSet(t, full, intKey(1023), x, changed, true)
	for _, gone := range []int{0, 500, 1023} {
		rest := slices.Delete(inRow(1024), gone, gone+1)
		checkTableSet(t, without(full, gone), intKey(1024), x, hashedTable(1024, 1025, append(rest, slot(intKey(1024), x))...), true)
		checkTableSet(t, without(full, gone), intKey(gone), x, hashedTable(1024, 1024, append(rest, slot(intKey(gone), x))...), true)
	}
	checkTableSet(t, without(full, inRange(3, 1024)...), intKey(1024), x, hashedTable(8, 1025, append(inRow(3), slot(intKey(1024), x))...), true)
}

func TestFullHashedTablesAreRebuilt(t *testing.T) {
	x := list(impl.TextValue("new"))
	for _, size := range []int{8, 16, 256} {
		full := hashedTable(size, size, inRow(size)...)
		for _, k := range []impl.Key{intKey(size), intKey(-1), strKey("a")} {
			next := max(size, k.Num+1)
			checkTableSet(t, full, k, x, hashedTable(2*size, next, append(inRow(size), slot(k, x))...), true)
			// One slot that is not live: it makes room, so that the size stays.
			rest := slices.Delete(inRow(size), 2, 3)
			checkTableSet(t, without(full, 2), k, x, hashedTable(size, next, append(rest, slot(k, x))...), true)
			// Many of them: the size shrinks.
			checkTableSet(t, without(full, inRange(7, size)...), k, x, hashedTable(8, next, append(inRow(7), slot(k, x))...), true)
			checkTableSet(t, without(full, inRange(0, size)...), k, x, hashedTable(8, next, slot(k, x)), true)
			// One slot less: there is room.
			room := hashedTable(size, size, inRow(size-1)...)
			checkTableSet(t, room, k, x, hashedTable(size, next, append(room.Slots, slot(k, x))...), true)
			checkTableSet(t, without(room, 1), k, x, hashedTable(size, next, append(without(room, 1).Slots, slot(k, x))...), true)
		}
		// A key that is there needs no room.
		changed := hashedTable(size, size, inRow(size)...)
		changed.Slots[4].Val = x
		checkTableSet(t, full, intKey(4), x, changed, true)
	}
}

func TestHashedTablesOfMaxTable(t *testing.T) {
	x := impl.TextValue("new")
	full := hashedTable(1024, 1024, inRow(1024)...)
	for _, k := range []impl.Key{intKey(1024), intKey(-1), strKey("a"), intKey(impl.MaxInt)} {
		checkTableSet(t, full, k, x, full, false)
	}
	checkRebuilt(t, full, full)
	changed := hashedTable(1024, 1024, inRow(1024)...)
	changed.Slots[9].Val = x
	checkTableSet(t, full, intKey(9), x, changed, true)
	rest := slices.Delete(inRow(1024), 9, 10)
	checkTableSet(t, without(full, 9), strKey("a"), x, hashedTable(1024, 1024, append(rest, slot(strKey("a"), x))...), true)
	checkTableSet(t, without(full, 9), intKey(9), x, hashedTable(1024, 1024, append(rest, slot(intKey(9), x))...), true)
	checkTableSet(t, hashedTable(1024, 1024, inRow(1023)...), strKey("a"), x, hashedTable(1024, 1024, append(inRow(1023), slot(strKey("a"), x))...), true)
	// The last power of two below.
	checkTableSet(t, hashedTable(512, 512, inRow(512)...), strKey("a"), x, hashedTable(1024, 512, append(inRow(512), slot(strKey("a"), x))...), true)
}

// TestKeysThatAreSetAgain has a key whose slot is not live: a new slot stands at the end, in the same bucket.
func TestKeysThatAreSetAgain(t *testing.T) {
	x := impl.TextValue("again")
	for _, k := range []impl.Key{intKey(5), intKey(-3), strKey(""), strKey("a")} {
		first, _ := modelTableSet(hashedTable(8, 9, slot(intKey(8), impl.IntValue(1))), k, impl.IntValue(2))
		first, _ = modelTableSet(first, intKey(3), impl.IntValue(3))
		gone := impl.TableDelete(first, k)
		checkSameTable(t, "TableDelete", gone, without(first, 1))
		want := hashedTable(8, 9, append(gone.Slots, slot(k, x))...)
		checkTableSet(t, gone, k, x, want, true)
		checkSlotFound(t, want, k, 3)
		checkTableValue(t, want, array(9, entry(intKey(8), impl.IntValue(1)), entry(intKey(3), impl.IntValue(3)), entry(k, x)))
		checkTableDeleted(t, want, k, without(want, 3))
	}
}

func TestTableSetWithWhatIsNoKey(t *testing.T) {
	for _, k := range []impl.Key{
		intKey(impl.MaxInt + 1), intKey(-impl.MaxInt - 1), intKey(math.MaxInt), intKey(math.MinInt), {Num: 1, Str: "a"}, {Str: "0"}, strKey("0"), strKey("3"), strKey("1000000000"),
		{Text: true, Num: 1, Str: "a"}, {Text: true, Num: -1}, strKey(strings.Repeat("a", 401)), strKey(strings.Repeat("a", 100000)),
	} {
		for _, table := range smallTables() {
			checkTableSet(t, table, k, impl.IntValue(2), table, false)
			checkTableDeleted(t, table, k, table)
			checkSlotFound(t, table, k, -1)
		}
	}
}

func TestNextOfTables(t *testing.T) {
	x := impl.IntValue(1)
	for _, c := range []struct {
		next int
		key  impl.Key
		want int
	}{
		{6, intKey(4), 6}, {6, intKey(5), 6}, {6, intKey(6), 7}, {6, intKey(7), 8}, {6, intKey(1000), 1001}, {6, intKey(-1), 6}, {6, strKey("7a"), 6}, {6, strKey(""), 6},
		{6, intKey(impl.MaxInt - 1), impl.MaxInt}, {6, intKey(impl.MaxInt), impl.MaxInt + 1}, {impl.MaxInt, intKey(impl.MaxInt), impl.MaxInt + 1},
		{impl.MaxInt + 1, intKey(impl.MaxInt), impl.MaxInt + 1}, {impl.MaxInt + 1, strKey("a"), impl.MaxInt + 1}, {impl.MaxInt + 1, intKey(0), impl.MaxInt + 1},
	} {
		got, _ := impl.TableSet(hashedTable(8, c.next, slot(intKey(2), x)), c.key, x)
		if got.Next != c.want || !impl.IsTable(got) {
			t.Errorf("the Next %d becomes %d with the key %s; want %d", c.next, got.Next, briefKey(c.key), c.want)
		}
	}
	// The slot with the greatest key is deleted: Next stays, also when the table is rebuilt.
	table := hashedTable(8, 10, slot(intKey(2), x), slot(intKey(9), x))
	gone := impl.TableDelete(table, intKey(9))
	checkSameTable(t, "TableDelete", gone, without(table, 1))
	checkRebuilt(t, gone, hashedTable(8, 10, slot(intKey(2), x)))
	checkTableSet(t, gone, intKey(5), x, hashedTable(8, 10, append(gone.Slots, slot(intKey(5), x))...), true)
	checkTableDeleted(t, packedTable(3, inRow(3)...), intKey(2), without(packedTable(3, inRow(3)...), 2))
}

func TestTableDelete(t *testing.T) {
	for _, table := range append(smallTables(), largeTables()...) {
		for i, s := range table.Slots[:min(len(table.Slots), 20)] {
			if s.Live {
				checkTableDeleted(t, table, s.Key, without(table, i))
			}
			checkTableDeleted(t, without(table, i), s.Key, modelTableDelete(without(table, i), s.Key))
		}
	}
	// Only the live one of two slots with the same key.
	mixed := hashedTable(8, 22, mixedSlots()...)
	checkTableDeleted(t, mixed, strKey("a"), without(mixed, 6))
	checkTableDeleted(t, without(mixed, 6), strKey("a"), without(mixed, 6))
}

func TestRebuild(t *testing.T) {
	for count, size := range map[int]int{
		0: 8, 1: 8, 6: 8, 7: 8, 8: 16, 9: 16, 15: 16, 16: 32, 17: 32, 31: 32, 32: 64, 63: 64, 64: 128, 127: 128, 128: 256, 255: 256, 256: 512, 257: 512, 511: 512, 512: 1024, 513: 1024, 1000: 1024, 1023: 1024,
	} {
		want := hashedTable(size, 2000, inRow(count)...)
		checkRebuilt(t, packedTable(2000, inRow(count)...), want)
		checkRebuilt(t, want, want)
		checkRebuilt(t, hashedTable(1024, 2000, inRow(count)...), want)
		// What is not live does not count, wherever it stands.
		slots := slices.Clone(inRow(count))
		for i := 0; i < 1024-count; i++ {
			at := i * 7 % (len(slots) + 1)
			slots = slices.Insert(slots, at, deadSlot(intKey(1100+i%50)))
		}
		checkRebuilt(t, hashedTable(1024, 2000, slots...), want)
	}
	for _, table := range []impl.Table{packedTable(1024, inRow(1024)...), packedTable(1030, inRow(1024)...), hashedTable(1024, 1024, inRow(1024)...)} {
		checkRebuilt(t, table, table)
	}
	checkRebuilt(t, without(packedTable(1024, inRow(1024)...), 0), hashedTable(1024, 1024, inRow(1024)[1:]...))
}

// TestTableValueOfAnyTable has tables that are sound and tables that are not: only what is live counts, and Next is taken as it is.
func TestTableValueOfAnyTable(t *testing.T) {
	x, y := impl.IntValue(1), list(impl.TextValue("deep"))
	same := slot(strKey("5"), x)
	for _, next := range []int{0, 3, -1, impl.MaxInt + 1, math.MaxInt, math.MinInt} {
		for _, isHashed := range []bool{false, true} {
			table := impl.Table{Hashed: isHashed, Heads: []int{7}, Slots: []impl.Slot{same, {Key: intKey(2), Val: y}, slot(intKey(9), y), same, slot(impl.Key{Num: 3, Str: "x"}, number(99, 4))}, Next: next, Count: -5}
			want := array(next, entry(same.Key, x), entry(intKey(9), y), entry(same.Key, x), entry(impl.Key{Num: 3, Str: "x"}, number(99, 4)))
			checkTableValue(t, table, want)
			table.Slots = table.Slots[1:2]
			checkTableValue(t, table, array(next))
			table.Slots = nil
			checkTableValue(t, table, array(next))
		}
	}
}

func TestTableOf(t *testing.T) {
	x, y := impl.IntValue(1), list(impl.TextValue("deep"))
	checkTableOf(t, impl.ArrayValue(), impl.Table{}, true)
	checkTableOf(t, array(7), impl.Table{Next: 7}, true)
	checkTableOf(t, array(impl.MaxInt+1), impl.Table{Next: impl.MaxInt + 1}, true)
	checkTableOf(t, list(x, y), packedTable(2, slot(intKey(0), x), slot(intKey(1), y)), true)
	checkTableOf(t, array(9, list(x, y).Items...), packedTable(9, slot(intKey(0), x), slot(intKey(1), y)), true)
	checkTableOf(t, array(2, entry(intKey(1), y), entry(intKey(0), x)), hashedTable(8, 2, slot(intKey(1), y), slot(intKey(0), x)), true)
	checkTableOf(t, array(3, entry(intKey(0), y), entry(intKey(2), x)), hashedTable(8, 3, slot(intKey(0), y), slot(intKey(2), x)), true)
	checkTableOf(t, array(0, entry(strKey("a"), y)), hashedTable(8, 0, slot(strKey("a"), y)), true)
	checkTableOf(t, array(impl.MaxInt+1, entry(intKey(impl.MaxInt), y), entry(intKey(-impl.MaxInt), x)), hashedTable(8, impl.MaxInt+1, slot(intKey(impl.MaxInt), y), slot(intKey(-impl.MaxInt), x)), true)
	checkTableOf(t, array(500, entry(intKey(3), number(impl.KindObject, 9))), hashedTable(8, 500, slot(intKey(3), number(impl.KindObject, 9))), true)
	// As many items as a valid value can have.
	checkTableOf(t, list(nulls(199)...), packedTable(199, nullSlots(199)...), true)
	reversed := array(1000)
	for i := range 199 {
		reversed.Items = append(reversed.Items, entry(intKey(198-i), impl.NullValue()))
	}
	slots := nullSlots(199)
	slices.Reverse(slots)
	checkTableOf(t, reversed, hashedTable(256, 1000, slots...), true)
}

// nullSlots has live slots with the keys 0, 1, 2 and so on, and null as their values.
func nullSlots(count int) []impl.Slot {
	slots := inRow(count)
	for i := range slots {
		slots[i].Val = impl.NullValue()
	}
	return slots
}

func TestTableOfWhatIsNoValidArray(t *testing.T) {
	for _, v := range otherValues() {
		checkTableOf(t, v, impl.Table{}, false)
	}
	x := impl.IntValue(1)
	for _, v := range []impl.Value{
		list(nulls(200)...), array(-1), array(impl.MaxInt + 2), {Kind: impl.KindArray, Num: 1}, {Kind: impl.KindArray, Str: "x"}, array(5, entry(intKey(5), x)), array(9, entry(strKey("5"), x)),
		array(9, entry(intKey(2), x), entry(intKey(2), x)), array(9, entry(strKey("a"), x), entry(strKey("a"), x)), array(9, entry(impl.Key{Num: 1, Str: "x"}, x)), list(number(impl.KindHandle, 0)), list(number(9, 0)),
		list(x, list(impl.IntValue(impl.MaxInt+1))), list(impl.TextValue(strings.Repeat("x", 401))), nested(200, impl.ArrayValue()),
	} {
		checkTableOf(t, v, impl.Table{}, false)
	}
	for _, v := range vastValues() {
		checkTableOf(t, v, impl.Table{}, false)
	}
}

// checkStands checks that a table is sound and stands for an array.
func checkStands(t *testing.T, table impl.Table, v impl.Value) {
	t.Helper()
	if !impl.IsTable(table) || !modelIsTable(table) {
		t.Fatalf("%s is no table", briefTable(table))
	}
	checkTableValue(t, table, v)
	for i, s := range table.Slots {
		found, ok := impl.GetKey(v, s.Key)
		at := impl.FindSlot(table, s.Key)
		if ok != (at >= 0) || s.Live && at != i {
			t.Fatalf("FindSlot(%s, %s) = %d", briefTable(table), briefKey(s.Key), at)
		}
		if ok {
			checkSame(t, "the value of "+briefKey(s.Key), table.Slots[at].Val, found)
		}
	}
}

// TestTablesAreTheArraysTheyStandFor is the promise in its own words: many changes of a table and of an array in a row.
func TestTablesAreTheArraysTheyStandFor(t *testing.T) {
	values := []impl.Value{impl.NullValue(), impl.BoolValue(true), impl.TextValue("t"), impl.ArrayValue(), list(impl.IntValue(1), list(impl.TextValue("u"))), number(impl.KindHandle, 3)}
	for seed := range 60 {
		random := rand.New(rand.NewSource(int64(seed)))
		most := []int{6, 20, 60}[seed%3]
		table, v := impl.NewTable(), impl.ArrayValue()
		for range 150 {
			x := values[random.Intn(len(values))]
			k := intKey(random.Intn(most))
			switch random.Intn(6) {
			case 0:
				k = impl.TextKey(strconv.Itoa(random.Intn(most)) + []string{"", "a"}[random.Intn(2)])
			case 1:
				k = intKey((random.Intn(most) - most/2) * 64)
			case 2, 3:
				k = intKey(len(table.Slots))
			}
			wantTable, isSet := table, true
			switch random.Intn(5) {
			case 0, 1:
				wantTable = modelTableDelete(table, k)
				table, v = impl.TableDelete(table, k), impl.DeleteKey(v, k)
			default:
				wantTable, _ = modelTableSet(table, k, x)
				table, isSet = impl.TableSet(table, k, x)
				v, _ = impl.SetKey(v, k, x)
			}
			if random.Intn(20) == 0 {
				wantTable, table = modelRebuild(wantTable), impl.Rebuild(table)
			}
			checkSameTable(t, "the table", table, wantTable)
			checkStands(t, table, v)
			if !isSet {
				t.Fatalf("TableSet reports false for %s", briefTable(table))
			}
		}
	}
}

// TestArraysAreReadFromTheirTables goes from arrays to tables and back, with slots that are deleted in between.
func TestArraysAreReadFromTheirTables(t *testing.T) {
	for _, v := range smallValues() {
		table, ok := impl.TableOf(v)
		if isArray := v.Kind == impl.KindArray && modelIsValue(v); ok != isArray {
			t.Errorf("TableOf(%s) reports %v", brief(v), ok)
		}
		if ok {
			checkStands(t, table, v)
		}
	}
	for _, table := range append(smallTables(), largeTables()...) {
		v := impl.TableValue(table)
		again, ok := impl.TableOf(v)
		if !modelIsValue(v) {
			checkTableOf(t, v, impl.Table{}, false)
			continue
		}
		if !ok {
			t.Errorf("TableOf(%s) reports false", brief(v))
		}
		checkStands(t, again, v)
		if len(table.Slots) > 1 {
			k := table.Slots[1].Key
			checkStands(t, impl.TableDelete(again, k), impl.DeleteKey(v, k))
		}
		if modelCount(again.Slots) != len(again.Slots) {
			t.Errorf("TableOf(%s) has slots that are not live", brief(v))
		}
	}
}

func TestTablesGrowToMaxTable(t *testing.T) {
	table, isSet := impl.NewTable(), true
	for i := range 1024 {
		// Every third key is deleted again, so that the table is hashed and rebuilt at many Counts.
		table, isSet = impl.TableSet(table, strKey("k"+strconv.Itoa(i)), impl.IntValue(i))
		if !isSet || table.Count != i+1-i/3 {
			t.Fatalf("%s, %v", briefTable(table), isSet)
		}
		if i%3 == 2 {
			table = impl.TableDelete(table, strKey("k"+strconv.Itoa(i/2)))
		}
	}
	checkIsTable(t, table, true)
	for i := 0; table.Count < 1024; i++ {
		table, isSet = impl.TableSet(table, intKey(5000+i), impl.IntValue(i))
		if !isSet {
			t.Fatal("no room")
		}
	}
	checkTableSet(t, table, strKey("one more"), impl.IntValue(1), table, false)
	checkIsTable(t, table, true)
}

// tableCall is a function of this chapter, with all that it gives back.
type tableCall struct {
	name string
	call func(table impl.Table, k impl.Key, v impl.Value) ([]impl.Table, []impl.Value)
}

func tableCalls() []tableCall {
	counted := func(n int) ([]impl.Table, []impl.Value) {
		return nil, []impl.Value{impl.IntValue(n)}
	}
	given := func(t impl.Table, ok bool) ([]impl.Table, []impl.Value) {
		return []impl.Table{t}, []impl.Value{impl.BoolValue(ok)}
	}
	return []tableCall{
		{"KeyHash", func(t impl.Table, k impl.Key, v impl.Value) ([]impl.Table, []impl.Value) {
			return counted(impl.KeyHash(k))
		}},
		{"NewTable", func(t impl.Table, k impl.Key, v impl.Value) ([]impl.Table, []impl.Value) {
			return given(impl.NewTable(), true)
		}},
		{"IsTable", func(t impl.Table, k impl.Key, v impl.Value) ([]impl.Table, []impl.Value) {
			return given(impl.Table{}, impl.IsTable(t))
		}},
		{"FindSlot", func(t impl.Table, k impl.Key, v impl.Value) ([]impl.Table, []impl.Value) {
			return counted(impl.FindSlot(t, k))
		}},
		{"TableSet", func(t impl.Table, k impl.Key, v impl.Value) ([]impl.Table, []impl.Value) {
			return given(impl.TableSet(t, k, v))
		}},
		{"TableDelete", func(t impl.Table, k impl.Key, v impl.Value) ([]impl.Table, []impl.Value) {
			return given(impl.TableDelete(t, k), true)
		}},
		{"Rebuild", func(t impl.Table, k impl.Key, v impl.Value) ([]impl.Table, []impl.Value) {
			return given(impl.Rebuild(t), true)
		}},
		{"TableValue", func(t impl.Table, k impl.Key, v impl.Value) ([]impl.Table, []impl.Value) {
			return nil, []impl.Value{impl.TableValue(t)}
		}},
		{"TableOf", func(t impl.Table, k impl.Key, v impl.Value) ([]impl.Table, []impl.Value) {
			return given(impl.TableOf(v))
		}},
	}
}

// roomyTable has memory behind its heads and slots that looks like some of a table.
func roomyTable(t impl.Table) impl.Table {
	size, count := len(t.Heads), len(t.Slots)
	if t.Hashed {
		t.Heads = append(append(make([]int, 0, 2*size+5), t.Heads...), 4, 5, 6)[:size]
	}
	spare := slot(strKey("spare"), list(impl.TextValue("spare")))
	t.Slots = append(append(make([]impl.Slot, 0, count+9), t.Slots...), spare, deadSlot(intKey(77)), spare)[:count]
	return t
}

// sharingTables has tables, sound or not, whose values lie in the same memory or deep inside values of all kinds.
func sharingTables() []impl.Table {
	values := sharingArguments()
	var packed, hashed []impl.Slot
	for i, v := range values {
		packed = append(packed, slot(intKey(i), v))
		hashed = append(hashed, slot(strKey("k"+strconv.Itoa(i)), v), slot(intKey(i*8), list(v, v)))
	}
	none := impl.Table{Hashed: true, Heads: []int{3, 4}, Slots: []impl.Slot{packed[3], {Key: strKey("dead"), Val: values[7], Link: 5}, packed[3], {Val: values[3]}}, Next: -1, Count: 7}
	tables := []impl.Table{
		{}, {Next: 3}, packedTable(3, inRow(3)...), packedTable(99, packed...), without(packedTable(99, packed...), 4, 5), hashedTable(8, 8, inRow(8)...),
		hashedTable(64, 999, hashed...), without(hashedTable(32, 999, hashed[:29]...), 0, 5, 28), hashedTable(8, 99, hashed[8:16]...), hashedTable(8, 9), none,
	}
	for i := range tables {
		tables[i] = roomyTable(tables[i])
	}
	return tables
}

func sharedKeys() []impl.Key {
	keys := []impl.Key{intKey(0), intKey(3), intKey(24), strKey("k3"), strKey("dead"), strKey("new"), strKey("7")}
	for i := range keys {
		// Constant texts of one program may lie in one place.
		keys[i].Str = strings.Clone(keys[i].Str)
	}
	return keys
}

// tableMemory is where the lists of tables lie too.
type tableMemory struct {
	memory
	slots map[*impl.Slot]bool
	heads map[*int]bool
}

func newTableMemory() tableMemory {
	return tableMemory{newMemory(), map[*impl.Slot]bool{}, map[*int]bool{}}
}

// addTable adds the memory of a table, also that behind its lists, and reports how many items, slots and heads it has seen.
func (m tableMemory) addTable(t impl.Table) int {
	heads, slots := t.Heads[:cap(t.Heads)], t.Slots[:cap(t.Slots)]
	seen := len(heads) + len(slots)
	for i := range heads {
		m.heads[&heads[i]] = true
	}
	for i := range slots {
		m.slots[&slots[i]] = true
		m.addText(slots[i].Key.Str)
		seen += m.addValue(slots[i].Val)
	}
	return seen
}

func (m tableMemory) meetsTable(other tableMemory) bool {
	return overlap(m.slots, other.slots) || overlap(m.heads, other.heads) || m.meets(other.memory)
}

func TestResultsOfTablesShareNoMemory(t *testing.T) {
	for _, c := range tableCalls() {
		for _, table := range sharingTables() {
			for _, v := range append(sharingArguments(), list(impl.TextValue("x")), number(9, 9)) {
				if len(table.Slots) > 3 && v.Kind == 9 {
					v = table.Slots[3].Val
				}
				for _, k := range sharedKeys() {
					given, got := newTableMemory(), newTableMemory()
					given.addTable(table)
					given.addValue(v)
					given.addText(k.Str)
					tables, values := c.call(table, k, v)
					seen := 0
					for _, r := range tables {
						seen += got.addTable(r)
					}
					for _, r := range values {
						seen += got.addValue(r)
					}
					if got.meetsTable(given) {
						t.Fatalf("%s of %s, %s and %s shares memory with them", c.name, briefTable(table), briefKey(k), brief(v))
					}
					if seen != len(got.items)+len(got.slots)+len(got.heads) {
						t.Fatalf("%s of %s, %s and %s has two lists in the same memory", c.name, briefTable(table), briefKey(k), brief(v))
					}
				}
			}
		}
	}
}

// spoilTable changes all that lies in the memory of a table.
func spoilTable(t impl.Table) {
	heads, slots := t.Heads[:cap(t.Heads)], t.Slots[:cap(t.Slots)]
	for i := range heads {
		heads[i] = -99
	}
	for i := range slots {
		spoil(slots[i].Val)
		slots[i] = slot(strKey("spoilt"), impl.IntValue(-99))
	}
}

// copiedTable copies a table and what lies behind its lists in their memory.
func copiedTable(t impl.Table) impl.Table {
	heads, slots := slices.Clone(t.Heads[:cap(t.Heads)]), slices.Clone(t.Slots[:cap(t.Slots)])
	for i := range slots {
		slots[i].Val = copied(slots[i].Val)
	}
	t.Heads, t.Slots = heads[:len(t.Heads)], slots[:len(t.Slots)]
	return t
}

func withSpareSlots(t impl.Table) impl.Table {
	t = copiedTable(t)
	t.Heads, t.Slots = t.Heads[:cap(t.Heads)], t.Slots[:cap(t.Slots)]
	for i := range t.Slots {
		t.Slots[i].Val = withSpare(t.Slots[i].Val)
	}
	return t
}

func TestArgumentsOfTablesStayAsTheyWere(t *testing.T) {
	for _, c := range tableCalls() {
		for i := range sharingTables() {
			for j := range sharingArguments() {
				table, v := sharingTables()[i], sharingArguments()[j]
				tableBefore, vBefore := withSpareSlots(table), withSpare(v)
				for _, k := range sharedKeys() {
					tables, values := c.call(table, k, v)
					for _, r := range tables {
						spoilTable(r)
					}
					for _, r := range values {
						spoil(r)
					}
					if !reflect.DeepEqual(withSpareSlots(table), tableBefore) || !reflect.DeepEqual(withSpare(v), vBefore) {
						t.Fatalf("%s of %s, %s and %s, or a change of its result, changes them", c.name, briefTable(tableBefore), briefKey(k), brief(vBefore))
					}
				}
			}
		}
	}
}

// TestChangedArgumentsDoNotChangeTables changes the table and the value, deep inside, after the call.
func TestChangedArgumentsDoNotChangeTables(t *testing.T) {
	for _, c := range tableCalls() {
		for i := range sharingTables() {
			for j := range sharingArguments() {
				for _, k := range sharedKeys() {
					table, v := sharingTables()[i], sharingArguments()[j]
					tables, values := c.call(table, k, v)
					wantTables, wantValues := c.call(copiedTable(table), k, copied(v))
					spoilTable(table)
					spoil(v)
					if !slices.EqualFunc(tables, wantTables, isSameTable) || !slices.EqualFunc(values, wantValues, isSame) {
						t.Fatalf("the result of %s changes with its arguments", c.name)
					}
				}
			}
		}
	}
}

func TestTableSetStoresACopy(t *testing.T) {
	deep := impl.TextValue("deep")
	for _, table := range smallTables() {
		for _, k := range []impl.Key{intKey(0), intKey(len(table.Slots)), strKey("a"), strKey("new")} {
			v := list(list(deep), deep)
			got, ok := impl.TableSet(table, k, v)
			spoil(v)
			at := impl.FindSlot(got, k)
			if !ok || at < 0 || !isSame(got.Slots[at].Val, list(list(deep), deep)) {
				t.Fatalf("TableSet(%s, %s) does not keep its value: %s", briefTable(table), briefKey(k), briefTable(got))
			}
		}
	}
	// A value out of the table itself, and one value in two results.
	table := hashedTable(8, 4, slot(intKey(3), list(deep)), slot(strKey("a"), list(list(deep))))
	got, _ := impl.TableSet(table, strKey("b"), table.Slots[1].Val)
	again, _ := impl.TableSet(table, strKey("b"), table.Slots[1].Val)
	spoilTable(got)
	checkSameTable(t, "the second", again, hashedTable(8, 4, append(table.Slots, slot(strKey("b"), list(list(deep))))...))
	checkSameTable(t, "the argument", table, hashedTable(8, 4, slot(intKey(3), list(deep)), slot(strKey("a"), list(list(deep)))))
}

// TestTablesOfValuesDeeperThanCalls would run out of stack if a function called itself for each array.
func TestTablesOfValuesDeeperThanCalls(t *testing.T) {
	defer debug.SetMaxStack(debug.SetMaxStack(1 << 20))
	deep := nested(200000, impl.IntValue(1))
	dead := without(packedTable(2, slot(intKey(0), deep), slot(intKey(1), deep)), 1)
	dead.Slots[1].Val = deep
	for _, table := range []impl.Table{packedTable(1, slot(intKey(0), deep)), hashedTable(8, 0, slot(strKey("a"), deep)), dead} {
		for _, c := range tableCalls() {
			for _, k := range []impl.Key{intKey(0), strKey("a"), strKey("5")} {
				c.call(table, k, deep)
			}
		}
	}
	got, ok := impl.TableSet(packedTable(1, inRow(1)...), intKey(0), deep)
	checkIdentical(t, got.Slots[0].Val, deep, true)
	checkIdentical(t, impl.TableValue(got), list(deep), true)
	if !ok {
		t.Error("the value is not set")
	}
}

func TestTablesOfVastValues(t *testing.T) {
	before := vastValues()
	for i, v := range vastValues() {
		table := packedTable(2, slot(intKey(0), v), slot(intKey(1), list(v)))
		if i%2 == 0 {
			table = hashedTable(8, 1, slot(intKey(0), v), slot(strKey("b"), list(v)))
		}
		for _, c := range tableCalls() {
			tables, values := c.call(table, intKey(0), v)
			for _, r := range tables {
				for at := range r.Slots {
					clear(r.Slots[at].Val.Items)
				}
			}
			for _, r := range values {
				clear(r.Items)
			}
		}
		checkIdentical(t, table.Slots[0].Val, before[i], true)
		got, ok := impl.TableSet(table, strKey("c"), v)
		checkIdentical(t, got.Slots[2].Val, v, true)
		checkIdentical(t, impl.TableValue(got), array(2, entry(intKey(0), v), entry(table.Slots[1].Key, list(v)), entry(strKey("c"), v)), true)
		if !ok || got.Count != 3 {
			t.Error("the value is not set")
		}
	}
}

// TestLongTables has far more slots and heads than a table can have.
func TestLongTables(t *testing.T) {
	const count = 100000
	slots := inRow(count)
	packed := packedTable(count, slots...)
	hashed := impl.Table{Hashed: true, Heads: make([]int, 1<<17), Slots: slots, Next: count, Count: count}
	for _, table := range []impl.Table{packed, hashed, {Heads: make([]int, count)}, {Hashed: true, Heads: make([]int, 8), Slots: slots, Count: count, Next: count}} {
		for _, k := range []impl.Key{intKey(0), strKey("a")} {
			checkSlotFound(t, table, k, -1)
			checkTableSet(t, table, k, impl.IntValue(1), table, false)
			checkTableDeleted(t, table, k, table)
		}
		checkIsTable(t, table, false)
		checkRebuilt(t, table, table)
		checkTableValue(t, table, modelTableValue(table))
	}
}

func TestTablesAreRepeatable(t *testing.T) {
	for _, table := range sharingTables() {
		for _, c := range tableCalls() {
			for _, k := range sharedKeys() {
				v := list(impl.TextValue("x"))
				tables, values := c.call(table, k, v)
				c.call(hashedTable(8, 4, inRow(4)...), strKey("other"), table.Slots[:cap(table.Slots)][0].Val)
				againTables, againValues := c.call(table, k, v)
				if !slices.EqualFunc(tables, againTables, isSameTable) || !slices.EqualFunc(values, againValues, isSame) {
					t.Errorf("%s of %s and %s is another one the second time", c.name, briefTable(table), briefKey(k))
				}
			}
		}
	}
}
