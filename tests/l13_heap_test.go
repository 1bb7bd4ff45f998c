package tests

import (
	"fmt"
	"math"
	"math/rand"
	"reflect"
	"runtime/debug"
	"slices"
	"strings"
	"testing"

	"loop.example/g03011/impl"
)

// Promise 13: shared arrays are written unseen, and every reference is counted.

func handle(n int) impl.Value {
	return number(impl.KindHandle, n)
}

func handles(numbers ...int) []impl.Value {
	var l []impl.Value
	for _, n := range numbers {
		l = append(l, handle(n))
	}
	return l
}

func heapOf(blocks ...impl.Block) impl.Heap {
	return impl.Heap{Blocks: blocks}
}

func block(count int, t impl.Table) impl.Block {
	return impl.Block{Count: count, Table: t}
}

// row is a block with a packed table that has these values, and the Next behind them.
func row(count int, values ...impl.Value) impl.Block {
	var slots []impl.Slot
	for i, v := range values {
		slots = append(slots, slot(intKey(i), v))
	}
	return block(count, packedTable(len(values), slots...))
}

// named is a block with a hashed table that has the keys "a", "b" and so on.
func named(count int, values ...impl.Value) impl.Block {
	var slots []impl.Slot
	for i, v := range values {
		slots = append(slots, slot(strKey(string(rune('a'+i))), v))
	}
	return block(count, hashedTable(8, 0, slots...))
}

func free() impl.Block {
	return impl.Block{}
}

func copiedHeap(h impl.Heap) impl.Heap {
	blocks := slices.Clone(h.Blocks[:cap(h.Blocks)])
	for i := range blocks {
		blocks[i].Table = copiedTable(blocks[i].Table)
	}
	return impl.Heap{Blocks: blocks[:len(h.Blocks)]}
}

func modelIsHeld(h impl.Heap, v impl.Value) bool {
	if v.Kind == 5 {
		return v.Str == "" && v.Next == 0 && len(v.Items) == 0 && v.Num >= 0 && v.Num < len(h.Blocks) && h.Blocks[v.Num].Count > 0
	}
	return v.Kind != 4 && modelIsValue(v)
}

// modelWithin returns the live values of a block.
func modelWithin(b impl.Block) []impl.Value {
	var l []impl.Value
	for _, s := range b.Table.Slots {
		if s.Live {
			l = append(l, s.Val)
		}
	}
	return l
}

// modelReaches reports whether the block to can be reached from within the block from.
func modelReaches(h impl.Heap, from, to int) bool {
	seen := map[int]bool{}
	next := modelWithin(h.Blocks[from])
	for len(next) > 0 {
		v := next[0]
		next = next[1:]
		if v.Kind == 5 && !seen[v.Num] {
			seen[v.Num] = true
			next = append(next, modelWithin(h.Blocks[v.Num])...)
		}
	}
	return seen[to]
}

// modelSpread is the weight of what a held value represents, where no block reaches itself. It stops rising at a million.
func modelSpread(h impl.Heap, v impl.Value, known map[int]int) int {
	if v.Kind != 5 {
		return 1
	}
	if known[v.Num] == 0 {
		weight := 1
		for _, x := range modelWithin(h.Blocks[v.Num]) {
			weight = min(weight+modelSpread(h, x, known), 1000000)
		}
		known[v.Num] = weight
	}
	return known[v.Num]
}

func modelIsHeap(h impl.Heap) bool {
	for _, b := range h.Blocks {
		if b.Count == 0 && !isSameTable(b.Table, impl.Table{}) || b.Count < 0 || b.Count > 1000000000000 || !modelIsTable(b.Table) {
			return false
		}
		for _, v := range modelWithin(b) {
			if !modelIsHeld(h, v) {
				return false
			}
		}
	}
	for i := range h.Blocks {
		if modelReaches(h, i, i) {
			return false
		}
	}
	known := map[int]int{}
	for i := range h.Blocks {
		if modelSpread(h, handle(i), known) > 200 {
			return false
		}
	}
	return true
}

// modelAllocate changes the list of blocks alone.
func modelAllocate(h *impl.Heap, t impl.Table) impl.Value {
	for i, b := range h.Blocks {
		if b.Count == 0 {
			h.Blocks[i] = block(1, t)
			return handle(i)
		}
	}
	h.Blocks = append(h.Blocks, block(1, t))
	return handle(len(h.Blocks) - 1)
}

func modelKeep(h *impl.Heap, v impl.Value) impl.Value {
	if v.Kind != 4 {
		return v
	}
	t := impl.Table{}
	for _, e := range v.Items {
		t, _ = modelTableSet(t, e.Key, modelKeep(h, e.Val))
	}
	t.Next = v.Next
	return modelAllocate(h, t)
}

func modelStore(h impl.Heap, v impl.Value) (impl.Heap, impl.Value, bool) {
	if !modelIsHeap(h) || !modelIsValue(v) {
		return h, impl.Value{}, false
	}
	h = copiedHeap(h)
	held := modelKeep(&h, v)
	return h, held, true
}

// modelRepresented takes a held value of a heap.
func modelRepresented(h impl.Heap, v impl.Value) impl.Value {
	if v.Kind != 5 {
		return v
	}
	v = modelTableValue(h.Blocks[v.Num].Table)
	for i := range v.Items {
		v.Items[i].Val = modelRepresented(h, v.Items[i].Val)
	}
	return v
}

func modelLoad(h impl.Heap, v impl.Value) (impl.Value, bool) {
	if !modelIsHeap(h) || !modelIsHeld(h, v) {
		return impl.Value{}, false
	}
	return modelRepresented(h, v), true
}

func modelShare(h *impl.Heap, values ...impl.Value) {
	for _, v := range values {
		if v.Kind == 5 {
			h.Blocks[v.Num].Count++
		}
	}
}

func modelShareValue(h impl.Heap, v impl.Value) (impl.Heap, bool) {
	if !modelIsHeap(h) || !modelIsHeld(h, v) || v.Kind == 5 && h.Blocks[v.Num].Count == 1000000000000 {
		return h, false
	}
	h = copiedHeap(h)
	modelShare(&h, v)
	return h, true
}

func modelCountRefs(h impl.Heap, roots []impl.Value) []int {
	all := slices.Clone(roots)
	for _, b := range h.Blocks {
		all = append(all, modelWithin(b)...)
	}
	counts := make([]int, len(h.Blocks))
	for i := range counts {
		for _, v := range all {
			if v.Kind == 5 && v.Num == i {
				counts[i]++
			}
		}
	}
	return counts
}

func modelIsCounted(h impl.Heap, roots []impl.Value) bool {
	if !modelIsHeap(h) || slices.ContainsFunc(roots, func(v impl.Value) bool { return !modelIsHeld(h, v) }) {
		return false
	}
	var counts []int
	for _, b := range h.Blocks {
		counts = append(counts, b.Count)
	}
	return slices.Equal(counts, modelCountRefs(h, roots))
}

// modelDrop keeps a list of what is still to be dropped.
func modelDrop(h *impl.Heap, v impl.Value) {
	for left := []impl.Value{v}; len(left) > 0; left = left[1:] {
		if left[0].Kind != 5 {
			continue
		}
		b := &h.Blocks[left[0].Num]
		b.Count--
		if b.Count == 0 {
			left = append(left, modelWithin(*b)...)
			*b = impl.Block{}
		}
	}
}

func modelDropValue(h impl.Heap, roots []impl.Value, at int) (impl.Heap, bool) {
	if at < 0 || at >= len(roots) || !modelIsCounted(h, roots) {
		return h, false
	}
	h = copiedHeap(h)
	modelDrop(&h, roots[at])
	return h, true
}

func modelOwn(h *impl.Heap, v impl.Value) impl.Value {
	if v.Kind == 0 {
		return modelAllocate(h, impl.Table{})
	}
	if h.Blocks[v.Num].Count == 1 {
		return v
	}
	t := copiedTable(h.Blocks[v.Num].Table)
	modelShare(h, modelWithin(h.Blocks[v.Num])...)
	h.Blocks[v.Num].Count--
	return modelAllocate(h, t)
}

// modelSpot is a place where a held value stands: the root if inside is false, or else the key of a block.
type modelSpot struct {
	inside bool
	block  int
	key    impl.Key
}

func modelAt(h *impl.Heap, root impl.Value, spot modelSpot) impl.Value {
	if !spot.inside {
		return root
	}
	t := h.Blocks[spot.block].Table
	if i := modelFindSlot(t, spot.key); i >= 0 {
		return t.Slots[i].Val
	}
	return impl.Value{}
}

func modelPut(h *impl.Heap, root *impl.Value, spot modelSpot, v impl.Value) {
	if !spot.inside {
		*root = v
		return
	}
	h.Blocks[spot.block].Table, _ = modelTableSet(h.Blocks[spot.block].Table, spot.key, v)
}

// modelWalk makes all arrays along a path one's own, each put into its place at once, and returns the place at the end.
func modelWalk(h *impl.Heap, root *impl.Value, path []impl.Key) modelSpot {
	spot := modelSpot{}
	for _, k := range path {
		own := modelOwn(h, modelAt(h, *root, spot))
		modelPut(h, root, spot, own)
		spot = modelSpot{true, own.Num, k}
	}
	return spot
}

func modelSetShared(h impl.Heap, roots []impl.Value, at int, path []impl.Key, push bool, from int) (impl.Heap, impl.Value, int) {
	isRoot := at >= 0 && at < len(roots) && from >= 0 && from < len(roots)
	if !isRoot || !modelIsCounted(h, roots) || slices.ContainsFunc(path, func(k impl.Key) bool { return !modelIsKey(k) }) {
		return h, impl.Value{}, 5
	}
	if _, code := modelSetPath(modelRepresented(h, roots[at]), path, push, modelRepresented(h, roots[from])); code != 0 {
		return h, roots[at], code
	}
	h = copiedHeap(h)
	root, x := roots[at], roots[from]
	modelShare(&h, x)
	spot := modelWalk(&h, &root, path)
	if push {
		own := modelOwn(&h, modelAt(&h, root, spot))
		modelPut(&h, &root, spot, own)
		spot = modelSpot{true, own.Num, intKey(h.Blocks[own.Num].Table.Next)}
	}
	old := modelAt(&h, root, spot)
	modelPut(&h, &root, spot, x)
	modelDrop(&h, old)
	return h, root, 0
}

func modelDeleteShared(h impl.Heap, roots []impl.Value, at int, path []impl.Key) (impl.Heap, impl.Value, bool) {
	if at < 0 || at >= len(roots) || !modelIsCounted(h, roots) {
		return h, impl.Value{}, false
	}
	if _, ok := modelGetPath(modelRepresented(h, roots[at]), path); !ok || len(path) == 0 {
		return h, roots[at], false
	}
	h = copiedHeap(h)
	root := roots[at]
	spot := modelWalk(&h, &root, path)
	old := modelAt(&h, root, spot)
	h.Blocks[spot.block].Table = modelTableDelete(h.Blocks[spot.block].Table, spot.key)
	modelDrop(&h, old)
	return h, root, true
}

func isSameHeap(a, b impl.Heap) bool {
	return slices.EqualFunc(a.Blocks, b.Blocks, func(x, y impl.Block) bool { return x.Count == y.Count && isSameTable(x.Table, y.Table) })
}

func briefHeap(h impl.Heap) string {
	if len(h.Blocks) > 8 {
		return fmt.Sprintf("a heap of %d blocks", len(h.Blocks))
	}
	s := "a heap"
	for i, b := range h.Blocks {
		s += fmt.Sprintf("\n\t%d: Count %d, %s", i, b.Count, briefTable(b.Table))
	}
	return fmt.Sprintf("%.4000s\n", s)
}

func checkSameHeap(t *testing.T, what string, got, want impl.Heap) {
	t.Helper()
	if !isSameHeap(got, want) {
		t.Errorf("%s is %s; want %s", what, briefHeap(got), briefHeap(want))
	}
}

func checkHeld(t *testing.T, h impl.Heap, v impl.Value, want bool) {
	t.Helper()
	if got := impl.IsHeld(h, v); got != want {
		t.Errorf("IsHeld(%s, %s) = %v; want %v", briefHeap(h), brief(v), got, want)
	}
}

func checkIsHeap(t *testing.T, h impl.Heap, want bool) {
	t.Helper()
	if got := impl.IsHeap(h); got != want {
		t.Errorf("IsHeap(%s) = %v; want %v", briefHeap(h), got, want)
	}
}

func checkStored(t *testing.T, h impl.Heap, v impl.Value, wantHeap impl.Heap, want impl.Value, wantOK bool) {
	t.Helper()
	gotHeap, got, ok := impl.StoreValue(h, v)
	if !isSameHeap(gotHeap, wantHeap) || !isSame(got, want) || ok != wantOK {
		t.Errorf("StoreValue(%s, %s) = %s, %s, %v; want %s, %s, %v", briefHeap(h), brief(v), briefHeap(gotHeap), brief(got), ok, briefHeap(wantHeap), brief(want), wantOK)
	}
}

func checkLoaded(t *testing.T, h impl.Heap, v impl.Value, want impl.Value, wantOK bool) {
	t.Helper()
	if got, ok := impl.LoadValue(h, v); !isSame(got, want) || ok != wantOK {
		t.Errorf("LoadValue(%s, %s) = %s, %v; want %s, %v", briefHeap(h), brief(v), brief(got), ok, brief(want), wantOK)
	}
}

func checkShared(t *testing.T, h impl.Heap, v impl.Value, want impl.Heap, wantOK bool) {
	t.Helper()
	if got, ok := impl.ShareValue(h, v); !isSameHeap(got, want) || ok != wantOK {
		t.Errorf("ShareValue(%s, %s) = %s, %v; want %s, %v", briefHeap(h), brief(v), briefHeap(got), ok, briefHeap(want), wantOK)
	}
}

func checkRefs(t *testing.T, h impl.Heap, roots []impl.Value, want ...int) {
	t.Helper()
	if got := impl.CountRefs(h, roots); !slices.Equal(got, want) {
		t.Errorf("CountRefs(%s, %s) = %v; want %v", briefHeap(h), briefList(roots), got, want)
	}
}

func checkCounted(t *testing.T, h impl.Heap, roots []impl.Value, want bool) {
	t.Helper()
	if got := impl.IsCounted(h, roots); got != want {
		t.Errorf("IsCounted(%s, %s) = %v; want %v", briefHeap(h), briefList(roots), got, want)
	}
}

func checkDropped(t *testing.T, h impl.Heap, roots []impl.Value, at int, want impl.Heap, wantOK bool) {
	t.Helper()
	if got, ok := impl.DropValue(h, roots, at); !isSameHeap(got, want) || ok != wantOK {
		t.Errorf("DropValue(%s, %s, %d) = %s, %v; want %s, %v", briefHeap(h), briefList(roots), at, briefHeap(got), ok, briefHeap(want), wantOK)
	}
}

func checkSetShared(t *testing.T, h impl.Heap, roots []impl.Value, at int, path []impl.Key, push bool, from int, wantHeap impl.Heap, want impl.Value, code int) {
	t.Helper()
	gotHeap, got, gotCode := impl.SetShared(h, roots, at, path, push, from)
	if !isSameHeap(gotHeap, wantHeap) || !isSame(got, want) || gotCode != code {
		t.Errorf("SetShared(%s, %s, %d, %s, %v, %d) = %s, %s, %d; want %s, %s, %d", briefHeap(h), briefList(roots), at, briefPath(path), push, from, briefHeap(gotHeap), brief(got), gotCode, briefHeap(wantHeap), brief(want), code)
	}
}

func checkDeleteShared(t *testing.T, h impl.Heap, roots []impl.Value, at int, path []impl.Key, wantHeap impl.Heap, want impl.Value, wantOK bool) {
	t.Helper()
	gotHeap, got, ok := impl.DeleteShared(h, roots, at, path)
	if !isSameHeap(gotHeap, wantHeap) || !isSame(got, want) || ok != wantOK {
		t.Errorf("DeleteShared(%s, %s, %d, %s) = %s, %s, %v; want %s, %s, %v", briefHeap(h), briefList(roots), at, briefPath(path), briefHeap(gotHeap), brief(got), ok, briefHeap(wantHeap), brief(want), wantOK)
	}
}

// checkAllDropped drops all roots, one after the other: no block is left.
func checkAllDropped(t *testing.T, h impl.Heap, roots []impl.Value) {
	t.Helper()
	left := roots
	for len(left) > 0 {
		at := len(left) / 2
		dropped, ok := impl.DropValue(h, left, at)
		left = slices.Delete(slices.Clone(left), at, at+1)
		if !ok || !impl.IsCounted(dropped, left) {
			t.Fatalf("%s is left of %s by %s", briefHeap(dropped), briefHeap(h), briefList(left))
		}
		h = dropped
	}
	for i, b := range h.Blocks {
		if b.Count != 0 || !isSameTable(b.Table, impl.Table{}) {
			t.Errorf("the block %d is left: %s", i, briefHeap(h))
		}
	}
}

// checkUnseen checks that a change of one root is the change of the value that it represents, that no other root shows it, and that all is counted. It returns the roots behind the change.
func checkUnseen(t *testing.T, h impl.Heap, roots []impl.Value, at int, changed impl.Heap, root, want impl.Value) []impl.Value {
	t.Helper()
	after := slices.Clone(roots)
	after[at] = root
	checkIsHeap(t, changed, true)
	checkCounted(t, changed, after, true)
	checkLoaded(t, changed, root, want, true)
	for i, v := range roots {
		if i != at {
			before, _ := impl.LoadValue(h, v)
			checkLoaded(t, changed, v, before, true)
		}
	}
	return after
}

// checkWritesShared checks a change that is made, and all that the document promises of it.
func checkWritesShared(t *testing.T, h impl.Heap, roots []impl.Value, at int, path []impl.Key, push bool, from int, wantHeap impl.Heap, want impl.Value) {
	t.Helper()
	checkCounted(t, h, roots, true)
	checkSetShared(t, h, roots, at, path, push, from, wantHeap, want, impl.ErrNone)
	checkSetSharedAsModel(t, h, roots, at, path, push, from)
}

// checkSetSharedAsModel returns what SetShared gives.
func checkSetSharedAsModel(t *testing.T, h impl.Heap, roots []impl.Value, at int, path []impl.Key, push bool, from int) (impl.Heap, impl.Value, int) {
	t.Helper()
	wantHeap, want, code := modelSetShared(h, roots, at, path, push, from)
	checkSetShared(t, h, roots, at, path, push, from, wantHeap, want, code)
	if code == impl.ErrNone {
		old, _ := impl.LoadValue(h, roots[at])
		x, _ := impl.LoadValue(h, roots[from])
		written, code := impl.SetPath(old, path, push, x)
		if code != impl.ErrNone {
			t.Errorf("SetPath gives the code %d", code)
		}
		checkAllDropped(t, wantHeap, checkUnseen(t, h, roots, at, wantHeap, want, written))
	}
	return wantHeap, want, code
}

func checkDeletesShared(t *testing.T, h impl.Heap, roots []impl.Value, at int, path []impl.Key, wantHeap impl.Heap, want impl.Value) {
	t.Helper()
	checkCounted(t, h, roots, true)
	checkDeleteShared(t, h, roots, at, path, wantHeap, want, true)
	checkDeleteSharedAsModel(t, h, roots, at, path)
}

// checkDeleteSharedAsModel returns what DeleteShared gives.
func checkDeleteSharedAsModel(t *testing.T, h impl.Heap, roots []impl.Value, at int, path []impl.Key) (impl.Heap, impl.Value, bool) {
	t.Helper()
	wantHeap, want, ok := modelDeleteShared(h, roots, at, path)
	checkDeleteShared(t, h, roots, at, path, wantHeap, want, ok)
	if ok {
		old, _ := impl.LoadValue(h, roots[at])
		checkAllDropped(t, wantHeap, checkUnseen(t, h, roots, at, wantHeap, want, impl.DeletePath(old, path)))
	}
	return wantHeap, want, ok
}

// checkNotCounted checks what every function gives that takes roots, for a heap and roots that IsCounted does not hold for.
func checkNotCounted(t *testing.T, h impl.Heap, roots []impl.Value) {
	t.Helper()
	checkCounted(t, h, roots, false)
	for at := range roots {
		checkDropped(t, h, roots, at, h, false)
		for _, path := range [][]impl.Key{nil, pathOf(0), pathOf("a")} {
			checkSetShared(t, h, roots, at, path, false, 0, h, impl.NullValue(), impl.ErrKey)
			checkSetShared(t, h, roots, 0, path, true, at, h, impl.NullValue(), impl.ErrKey)
			checkDeleteShared(t, h, roots, at, path, h, impl.NullValue(), false)
		}
	}
}

// checkNoHeap checks what every function gives for a heap that is none.
func checkNoHeap(t *testing.T, h impl.Heap) {
	t.Helper()
	checkIsHeap(t, h, false)
	for _, v := range []impl.Value{impl.NullValue(), impl.IntValue(5), impl.TextValue("t"), list(impl.IntValue(1)), handle(0), handle(1)} {
		checkStored(t, h, v, h, impl.NullValue(), false)
		checkLoaded(t, h, v, impl.NullValue(), false)
		checkShared(t, h, v, h, false)
		checkNotCounted(t, h, []impl.Value{v, impl.NullValue()})
	}
	checkCounted(t, h, nil, false)
}

// heldScalars has a value of every kind that stands for itself in a heap.
func heldScalars() []impl.Value {
	return []impl.Value{
		impl.NullValue(), impl.BoolValue(false), impl.BoolValue(true), impl.IntValue(0), impl.IntValue(impl.MaxInt), impl.IntValue(-impl.MaxInt), impl.TextValue(""), impl.TextValue("text"), impl.TextValue(strings.Repeat("t", 400)),
		number(impl.KindObject, 0), number(impl.KindObject, 255), number(impl.KindClosure, 0), number(impl.KindClosure, 255), number(impl.KindGen, 0), number(impl.KindGen, 255),
	}
}

// noHandles has values of the KindHandle with another field that is not zero.
func noHandles(n int) []impl.Value {
	items := list(impl.NullValue()).Items
	return []impl.Value{
		{Kind: impl.KindHandle, Num: n, Str: "x"}, {Kind: impl.KindHandle, Num: n, Next: 1}, {Kind: impl.KindHandle, Num: n, Next: -1}, {Kind: impl.KindHandle, Num: n, Items: items}, {Kind: impl.KindHandle, Num: n, Str: "0", Next: 5, Items: items},
	}
}

// soundHeaps has heaps, each with roots for which it is counted.
func soundHeaps() ([]impl.Heap, [][]impl.Value) {
	one, text := impl.IntValue(1), impl.TextValue("t")
	dead := without(hashedTable(8, 5, slot(intKey(4), handle(0)), slot(strKey("a"), handle(0)), slot(strKey("b"), one)), 0)
	heaps := []impl.Heap{
		{}, heapOf(free()), heapOf(free(), free(), free()), heapOf(row(1)), heapOf(row(3, one, text)), heapOf(free(), row(1, one), free()),
		heapOf(row(2, one), row(1, handle(0), handle(0))), heapOf(row(1, handle(1), handle(1)), row(2, one)), heapOf(named(1, handle(2), one, handle(3)), free(), row(3, handle(3), text), row(2)),
		heapOf(row(2, one), block(1, dead)), heapOf(row(1, handle(1)), row(1, handle(2)), row(1, handle(3)), row(1, handle(4)), row(1)),
	}
	roots := [][]impl.Value{
		{}, {}, {one}, handles(0), handles(0, 0, 0), {text, handle(1)},
		handles(1), {handle(0), one}, {handle(0), handle(2), handle(2), impl.NullValue()},
		handles(0, 1), handles(0),
	}
	return heaps, roots
}

func TestHeapConstants(t *testing.T) {
	if impl.MaxCount != 1000000000000 {
		t.Errorf("MaxCount is %d", impl.MaxCount)
	}
}

func TestIsHeld(t *testing.T) {
	h := heapOf(row(1), free(), row(5, impl.IntValue(1)), row(impl.MaxCount), block(-1, impl.Table{}), block(impl.MaxCount+1, impl.Table{Count: 9}))
	for _, v := range heldScalars() {
		checkHeld(t, h, v, true)
		checkHeld(t, impl.Heap{}, v, true)
	}
	for _, v := range []impl.Value{impl.ArrayValue(), list(impl.IntValue(1)), array(9), nested(50, impl.NullValue()), list(handle(0)), {Kind: impl.KindArray, Num: 2}} {
		checkHeld(t, h, v, false)
	}
	for _, n := range []int{0, 2, 3, 5} {
		checkHeld(t, h, handle(n), true)
		for _, v := range noHandles(n) {
			checkHeld(t, h, v, false)
		}
		checkHeld(t, h, impl.Value{Kind: impl.KindHandle, Num: n, Items: []impl.Entry{}}, true)
		checkHeld(t, impl.Heap{}, handle(n), false)
	}
	// Free blocks, blocks whose Count is below 0, and none at all.
	for _, n := range []int{1, 4, 6, 7, 255, 256, -1, -2, -6, 1 << 32, 1<<32 + 2, math.MaxInt, math.MinInt} {
		checkHeld(t, h, handle(n), false)
	}
	for _, v := range append(badValues(), vastValues()...) {
		checkHeld(t, h, v, modelIsHeld(h, v) && v.Kind == impl.KindHandle)
	}
	for _, v := range otherValues() {
		checkHeld(t, h, v, modelIsHeld(h, v))
	}
}

func TestSoundHeaps(t *testing.T) {
	heaps, roots := soundHeaps()
	for i, h := range heaps {
		checkIsHeap(t, h, true)
		checkCounted(t, h, roots[i], true)
		checkAllDropped(t, h, roots[i])
		if !modelIsHeap(h) || !modelIsCounted(h, roots[i]) {
			t.Errorf("the model does not know %s", briefHeap(h))
		}
	}
}

func TestCountsOfBlocks(t *testing.T) {
	for _, count := range []int{1, 2, 200, 1 << 32, impl.MaxCount - 1, impl.MaxCount} {
		checkIsHeap(t, heapOf(row(count, impl.IntValue(1))), true)
		checkIsHeap(t, heapOf(block(count, impl.Table{})), true)
		checkIsHeap(t, heapOf(row(1), free(), row(count), row(1, handle(2), handle(0))), true)
	}
	for _, count := range []int{-1, -2, impl.MaxCount + 1, -impl.MaxCount, math.MaxInt, math.MinInt} {
		checkNoHeap(t, heapOf(row(count, impl.IntValue(1))))
		checkNoHeap(t, heapOf(block(count, impl.Table{})))
		checkNoHeap(t, heapOf(row(1), free(), row(count)))
	}
	// What a handle leads to is not free.
	checkNoHeap(t, heapOf(row(1, handle(1)), row(0)))
}

func TestFreeBlocks(t *testing.T) {
	checkIsHeap(t, heapOf(free()), true)
	checkIsHeap(t, heapOf(block(0, impl.Table{Heads: []int{}, Slots: []impl.Slot{}})), true)
	checkIsHeap(t, heapOf(block(0, impl.Table{Heads: make([]int, 0, 8), Slots: inRow(2)[:0]})), true)
	for _, table := range []impl.Table{
		{Next: 1}, {Next: -1}, {Count: 1}, {Count: -1}, {Hashed: true}, {Heads: []int{0}}, {Heads: []int{-1}}, {Slots: make([]impl.Slot, 1)},
		hashedTable(8, 0), packedTable(1, inRow(1)...), packedTable(1, deadSlot(intKey(0))), packedTable(1, slot(intKey(0), handle(0))),
	} {
		checkNoHeap(t, heapOf(block(0, table)))
		checkNoHeap(t, heapOf(free(), row(1), block(0, table)))
	}
}

func TestTablesOfBlocks(t *testing.T) {
	for _, table := range slices.Concat(smallTables(), largeTables()) {
		light := without(table, inRange(0, len(table.Slots))...)
		checkIsHeap(t, heapOf(block(2, light)), true)
		// Arrays have no place in a heap, and too many items none in a value.
		held := heapOf(block(2, table))
		checkIsHeap(t, held, modelIsHeap(held))
	}
	for _, broken := range slices.Concat(brokenSizes(), brokenLinks(), brokenNumbers(), brokenSlots()) {
		h := heapOf(row(1), block(1, broken.table))
		if impl.IsHeap(h) {
			t.Errorf("%s: IsHeap(%s) is true", broken.reason, briefHeap(h))
		}
		checkStored(t, h, impl.IntValue(1), h, impl.NullValue(), false)
	}
	for _, broken := range append(brokenSizes()[:6], brokenSlots()...) {
		checkNoHeap(t, heapOf(block(1, broken.table)))
	}
}

func TestValuesOfBlocks(t *testing.T) {
	with := func(v impl.Value) []impl.Heap {
		return []impl.Heap{heapOf(row(1, v), free(), row(2)), heapOf(row(1), free(), named(1, impl.NullValue(), v)), heapOf(row(5), free(), row(1), row(1, impl.IntValue(1), v, impl.IntValue(2)))}
	}
	for _, v := range append(heldScalars(), handle(2)) {
		for i, h := range with(v)[1:] {
			isLoop := i == 0 && v.Kind == impl.KindHandle
			checkIsHeap(t, h, !isLoop)
		}
		checkIsHeap(t, with(v)[0], true)
	}
	bad := append(badValues(), impl.ArrayValue(), list(impl.IntValue(1)), handle(1), handle(4), handle(5), handle(-1), handle(255), handle(math.MaxInt), handle(math.MinInt))
	for _, v := range append(append(bad, noHandles(0)...), noHandles(2)...) {
		if v.Kind == impl.KindHandle && isSame(v, handle(0)) {
			continue
		}
		for _, h := range with(v) {
			checkNoHeap(t, h)
		}
	}
	for _, v := range vastValues() {
		checkIsHeap(t, with(v)[1], false)
	}
	// Slots that are not live do not hold anything, and nothing counts of what lies behind the slots.
	spare := packedTable(1, slot(intKey(0), impl.IntValue(1)))
	spare.Slots = append(spare.Slots, slot(intKey(1), handle(9)))[:1]
	checkIsHeap(t, heapOf(block(1, spare)), true)
	checkIsHeap(t, heapOf(block(1, without(packedTable(2, slot(intKey(0), handle(0)), slot(intKey(1), list())), 0, 1))), true)
}

// TestBlocksThatReachThemselves has circles of one block, of several, and such as only lead into a circle.
func TestBlocksThatReachThemselves(t *testing.T) {
	one := impl.IntValue(1)
	for _, h := range []impl.Heap{
		heapOf(row(1, handle(0))), heapOf(row(2, handle(0), handle(0))), heapOf(row(1, one, one, handle(0))), heapOf(named(1, one, handle(0))), heapOf(free(), row(1), row(1, handle(2))),
		heapOf(row(1, handle(1)), row(1, handle(0))), heapOf(row(1, handle(2)), row(1), row(1, one, handle(0))), heapOf(row(1, handle(1)), row(1, handle(2)), row(1, handle(0))),
		heapOf(row(1, handle(1)), row(2, handle(1))), heapOf(row(2, handle(1)), row(1, handle(2), handle(0)), row(1)), heapOf(row(1, handle(3)), row(1, handle(0)), row(1, handle(1)), row(1, handle(2))),
	} {
		checkNoHeap(t, h)
	}
	for _, size := range []int{2, 5, 100, 199, 200, 201, 1000, 100000} {
		var blocks []impl.Block
		for i := range size {
			blocks = append(blocks, row(1, handle((i+1)%size)))
		}
		checkIsHeap(t, heapOf(blocks...), false)
		blocks[size-1] = row(1)
		checkIsHeap(t, heapOf(blocks...), size <= 200)
		slices.Reverse(blocks)
		for i := range blocks[1:] {
			blocks[i+1] = row(1, handle(i))
		}
		checkIsHeap(t, heapOf(blocks...), size <= 200)
	}
}

// TestWeightsInHeaps has arrays that weigh just MaxWeight, and one more, for what they share.
func TestWeightsInHeaps(t *testing.T) {
	spread := func(inner int, handles, scalars int) impl.Heap {
		values := nulls(scalars)
		for range handles {
			values = append(values, handle(1))
		}
		return heapOf(row(1, values...), row(max(handles, 1), nulls(inner)...))
	}
	for _, c := range []struct{ inner, handles, scalars, weight int }{
		{198, 1, 0, 200}, {198, 1, 1, 201}, {199, 1, 0, 201}, {199, 0, 0, 1}, {0, 0, 199, 200}, {0, 0, 200, 201}, {200, 0, 0, 1}, {0, 199, 0, 200}, {0, 200, 0, 201},
		{98, 2, 1, 200}, {98, 2, 2, 201}, {99, 2, 0, 201}, {49, 3, 49, 200}, {49, 3, 50, 201}, {48, 4, 3, 200}, {48, 4, 4, 201}, {9, 19, 9, 200}, {9, 20, 0, 201}, {0, 100, 99, 200}, {0, 100, 100, 201},
	} {
		h := spread(c.inner, c.handles, c.scalars)
		isLight := c.weight <= 200 && c.inner < 200
		if isLight != modelIsHeap(h) {
			t.Errorf("the model does not agree for %+v", c)
		}
		checkIsHeap(t, h, isLight)
		if got, ok := impl.LoadValue(h, handle(0)); ok && impl.Weight(got) != c.weight {
			t.Errorf("the weight is %d; want %d", impl.Weight(got), c.weight)
		}
	}
	// Each level has the one below it twice: 1, 3, 7, 15, 31, 63, 127, 255.
	blocks := []impl.Block{row(2)}
	for level := range 300 {
		checkIsHeap(t, heapOf(blocks...), level < 7)
		if level == 6 {
			// 127 and 72 and 1 are 200.
			checkIsHeap(t, heapOf(append(slices.Clone(blocks), row(1, append(nulls(72), handle(6))...))...), true)
			checkIsHeap(t, heapOf(append(slices.Clone(blocks), row(1, append(nulls(73), handle(6))...))...), false)
			checkIsHeap(t, heapOf(append(slices.Clone(blocks), row(1, handle(6)), row(1, append(nulls(71), handle(7))...))...), true)
			checkIsHeap(t, heapOf(append(slices.Clone(blocks), row(1, handle(6)), row(1, append(nulls(72), handle(7))...))...), false)
		}
		blocks = append(blocks, row(2, handle(level), handle(level)))
	}
	// The heap as a whole weighs more than a value may.
	blocks = slices.Repeat([]impl.Block{row(1, nulls(199)...)}, 50)
	checkIsHeap(t, heapOf(blocks...), true)
	blocks[49] = row(1, nulls(200)...)
	checkIsHeap(t, heapOf(blocks...), false)
	// Slots that are not live weigh nothing.
	checkIsHeap(t, heapOf(block(1, without(packedTable(900, nullSlots(900)...), inRange(0, 701)...))), true)
	checkIsHeap(t, heapOf(block(1, without(packedTable(900, nullSlots(900)...), inRange(0, 700)...))), false)
}

func TestStoredScalars(t *testing.T) {
	heaps, _ := soundHeaps()
	for _, h := range heaps {
		for _, v := range heldScalars() {
			checkStored(t, h, v, h, v, true)
			checkLoaded(t, h, v, v, true)
		}
	}
}

func TestStoredArrays(t *testing.T) {
	one, two, text := impl.IntValue(1), impl.IntValue(2), impl.TextValue("t")
	checkStored(t, impl.Heap{}, impl.ArrayValue(), heapOf(row(1)), handle(0), true)
	checkStored(t, impl.Heap{}, array(7), heapOf(block(1, impl.Table{Next: 7})), handle(0), true)
	checkStored(t, impl.Heap{}, list(one, text), heapOf(row(1, one, text)), handle(0), true)
	// The values of items come first, in order, and the array itself last.
	checkStored(t, impl.Heap{}, list(list(one), two, list(text)), heapOf(row(1, one), row(1, text), row(1, handle(0), two, handle(1))), handle(2), true)
	checkStored(t, impl.Heap{}, list(list(list(one), two), list()), heapOf(row(1, one), row(1, handle(0), two), row(1), row(1, handle(1), handle(2))), handle(3), true)
	checkStored(t, impl.Heap{}, nested(3, text), heapOf(row(1, text), row(1, handle(0)), row(1, handle(1))), handle(2), true)
	// The same array twice is stored twice.
	checkStored(t, impl.Heap{}, doubled(2, one), heapOf(row(1, one, one), row(1, one, one), row(1, handle(0), handle(1))), handle(2), true)
	checkStored(t, impl.Heap{}, array(9, entry(strKey("b"), list()), entry(intKey(4), array(3, entry(strKey("c"), one)))),
		heapOf(row(1), block(1, hashedTable(8, 3, slot(strKey("c"), one))), block(1, hashedTable(8, 9, slot(strKey("b"), handle(0)), slot(intKey(4), handle(1))))), handle(2), true)
	// Tables are built as TableOf builds them, with a Next of their own.
	for _, v := range []impl.Value{array(9, entry(intKey(0), one), entry(intKey(1), two)), array(impl.MaxInt+1, entry(intKey(3), one), entry(strKey(""), two)), list(nulls(199)...), texted(0, 60)} {
		table, _ := impl.TableOf(v)
		checkStored(t, heapOf(row(3)), v, heapOf(row(3), block(1, table)), handle(1), true)
	}
}

func TestArraysAreStoredInFreeBlocks(t *testing.T) {
	one, x := impl.IntValue(1), impl.IntValue(7)
	v := list(list(one), list())
	stored := func(i, j int) impl.Block { return row(1, handle(i), handle(j)) }
	for _, c := range []struct {
		h, want impl.Heap
		at      int
	}{
		{heapOf(row(2, x)), heapOf(row(2, x), row(1, one), row(1), stored(1, 2)), 3},
		{heapOf(free(), row(2, x)), heapOf(row(1, one), row(2, x), row(1), stored(0, 2)), 3},
		{heapOf(row(2, x), free()), heapOf(row(2, x), row(1, one), row(1), stored(1, 2)), 3},
		{heapOf(free(), free(), row(1), free()), heapOf(row(1, one), row(1), row(1), stored(0, 1)), 3},
		{heapOf(row(1), free(), row(1, x), free(), free(), free()), heapOf(row(1), row(1, one), row(1, x), row(1), stored(1, 3), free()), 4},
		{heapOf(free(), free(), free()), heapOf(row(1, one), row(1), stored(0, 1)), 2},
		{heapOf(free(), free(), free(), free()), heapOf(row(1, one), row(1), stored(0, 1), free()), 2},
		// Blocks to which no root refers are not free.
		{heapOf(row(1, x), row(1, handle(0))), heapOf(row(1, x), row(1, handle(0)), row(1, one), row(1), stored(2, 3)), 4},
	} {
		checkStored(t, c.h, v, c.want, handle(c.at), true)
		checkLoaded(t, c.want, handle(c.at), v, true)
		want, held, ok := modelStore(c.h, v)
		checkStored(t, c.h, v, want, held, ok)
	}
}

func TestStoreValueThatIsNotValid(t *testing.T) {
	heaps, _ := soundHeaps()
	for _, h := range heaps {
		for _, v := range append(append(badValues(), badArrays()...), handle(0), handle(1), list(handle(0)), list(handle(1)), list(list(handle(0))), number(9, 0)) {
			checkStored(t, h, v, h, impl.NullValue(), false)
		}
		for _, v := range vastValues() {
			checkStored(t, h, v, h, impl.NullValue(), false)
		}
		for _, v := range append(otherValues(), smallValues()...) {
			want, held, ok := modelStore(h, v)
			checkStored(t, h, v, want, held, ok)
		}
	}
}

func TestLoadValue(t *testing.T) {
	one, text := impl.IntValue(1), impl.TextValue("t")
	dead := without(hashedTable(8, 9, slot(intKey(4), one), slot(strKey("a"), handle(0)), slot(intKey(-1), text), slot(strKey("b"), handle(2))), 0, 2)
	h := heapOf(row(1, text), block(3, dead), row(2, handle(0), one, handle(0)), free(), block(1, impl.Table{Next: 5}), named(9, handle(4), handle(1)))
	inner := list(list(text), one, list(text))
	checkLoaded(t, h, handle(0), list(text), true)
	checkLoaded(t, h, handle(1), array(9, entry(strKey("a"), list(text)), entry(strKey("b"), inner)), true)
	checkLoaded(t, h, handle(2), inner, true)
	checkLoaded(t, h, handle(4), array(5), true)
	checkLoaded(t, h, handle(5), array(0, entry(strKey("a"), array(5)), entry(strKey("b"), array(9, entry(strKey("a"), list(text)), entry(strKey("b"), inner)))), true)
	for _, v := range append(append(badValues(), noHandles(0)...), handle(3), handle(6), handle(-1), handle(math.MaxInt), handle(math.MinInt), impl.ArrayValue(), list(one), list(handle(0))) {
		if !isSame(v, handle(0)) {
			checkLoaded(t, h, v, impl.NullValue(), false)
		}
	}
	for _, v := range vastValues() {
		checkLoaded(t, h, v, impl.NullValue(), false)
	}
	for _, v := range append(otherValues(), smallValues()...) {
		want, ok := modelLoad(h, v)
		checkLoaded(t, h, v, want, ok)
	}
	// The heaviest and the deepest value.
	checkLoaded(t, heapOf(row(1, nulls(199)...)), handle(0), list(nulls(199)...), true)
	blocks := []impl.Block{row(1)}
	for i := range 199 {
		blocks = append(blocks, row(1, handle(i)))
	}
	checkLoaded(t, heapOf(blocks...), handle(199), nested(199, impl.ArrayValue()), true)
}

func TestWhatIsStoredIsLoaded(t *testing.T) {
	values := append(append(heldScalars(), smallValues()...), deepValue(), list(nulls(199)...), nested(199, impl.TextValue("deep")), texted(3, 66), array(impl.MaxInt+1), list(deepValue(), deepValue()))
	for seed := range 100 {
		values = append(values, randomTree(rand.New(rand.NewSource(int64(seed))), 5))
	}
	heaps, roots := soundHeaps()
	for i, h := range heaps {
		for _, v := range values {
			want, held, ok := modelStore(h, v)
			checkStored(t, h, v, want, held, ok)
			if ok {
				checkIsHeap(t, want, true)
				checkHeld(t, want, held, true)
				checkLoaded(t, want, held, v, true)
				checkCounted(t, want, append(slices.Clone(roots[i]), held), true)
			}
		}
	}
	// All of them in one heap: what is stored later does not touch what has been stored.
	h, all, stored := impl.Heap{}, []impl.Value{}, []impl.Value{}
	for _, v := range values {
		changed, held, ok := impl.StoreValue(h, v)
		if ok {
			h, all, stored = changed, append(all, held), append(stored, v)
		}
	}
	checkCounted(t, h, all, true)
	for i, held := range all {
		checkLoaded(t, h, held, stored[i], true)
	}
}

func TestShareValue(t *testing.T) {
	h := heapOf(row(1, handle(2), handle(2)), free(), row(2, impl.IntValue(1)), row(impl.MaxCount-1), row(impl.MaxCount), row(impl.MaxCount, handle(2)))
	for _, v := range heldScalars() {
		checkShared(t, h, v, h, true)
		checkShared(t, impl.Heap{}, v, impl.Heap{}, true)
	}
	for _, n := range []int{0, 2, 3} {
		want := copiedHeap(h)
		want.Blocks[n].Count++
		checkShared(t, h, handle(n), want, true)
	}
	// What lies within is not shared with it.
	checkShared(t, heapOf(row(1), row(1, handle(0))), handle(1), heapOf(row(1), row(2, handle(0))), true)
	for _, v := range append(append(badValues(), append(noHandles(0), noHandles(3)...)...), handle(1), handle(4), handle(5), handle(6), handle(-1), handle(math.MaxInt), impl.ArrayValue(), list(impl.IntValue(1)), list(handle(0))) {
		if !isSame(v, handle(0)) {
			checkShared(t, h, v, h, false)
		}
	}
	for _, v := range vastValues() {
		checkShared(t, h, v, h, false)
	}
	for _, v := range append(otherValues(), smallValues()...) {
		want, ok := modelShareValue(h, v)
		checkShared(t, h, v, want, ok)
	}
	// It is shared until the greatest Count is reached.
	h, ok := impl.ShareValue(h, handle(3))
	checkShared(t, h, handle(3), h, false)
	if !ok || h.Blocks[3].Count != 1000000000000 {
		t.Errorf("the Count is %d", h.Blocks[3].Count)
	}
}

func TestCountRefs(t *testing.T) {
	one := impl.IntValue(1)
	checkRefs(t, impl.Heap{}, nil)
	checkRefs(t, impl.Heap{}, handles(0, 1, -1))
	checkRefs(t, heapOf(free(), row(5)), nil, 0, 0)
	checkRefs(t, heapOf(free(), row(5)), []impl.Value{handle(0), handle(1), handle(1), one, impl.NullValue()}, 1, 2)
	checkRefs(t, heapOf(row(1, handle(1), handle(1), one), row(7, handle(2)), row(1)), handles(1, 0), 1, 3, 1)
	// No block has the number of the first ones.
	checkRefs(t, heapOf(row(1), row(1)), handles(2, -1, 1<<32, math.MaxInt, math.MinInt, 1), 0, 1)
	checkRefs(t, heapOf(row(1, handle(3), handle(-1)), row(1)), nil, 0, 0)
	// Any value of the kind counts, whatever its other fields are, but nothing within a value.
	checkRefs(t, heapOf(row(1, noHandles(1)...), row(-1)), append(noHandles(0), handle(0)), 6, 5)
	checkRefs(t, heapOf(row(1, list(handle(0)), nested(3, handle(1))), row(1)), []impl.Value{list(handle(0), handle(1)), {Kind: impl.KindHandle, Num: 1, Items: list(handle(0)).Items}}, 0, 1)
	for _, kind := range []int{0, 1, 2, 3, 4, 6, 7, 8, 9, -1, 1<<32 + 5} {
		checkRefs(t, heapOf(row(1, number(kind, 0), number(kind, 1)), row(1)), []impl.Value{number(kind, 0), number(kind, 1)}, 0, 0)
	}
	// Slots that are not live do not count, even with a value, nor does what lies behind the slots.
	dead := packedTable(3, slot(intKey(0), handle(0)), slot(intKey(1), handle(1)), slot(intKey(2), handle(1)))
	dead.Slots[1].Live = false
	checkRefs(t, heapOf(block(1, dead), row(1)), nil, 1, 1)
	dead.Slots = dead.Slots[:1]
	checkRefs(t, heapOf(block(1, dead), row(1)), nil, 1, 0)
	checkRefs(t, impl.Heap{Blocks: []impl.Block{row(1), row(1, handle(0))}[:1]}, nil, 0)
	// Blocks that are free, or no blocks at all, have references too.
	checkRefs(t, heapOf(row(0, handle(0), handle(1)), row(-5, handle(0)), block(3, hashedTable(3, 0, slot(strKey("5"), handle(2)), slot(strKey("5"), handle(2))))), handles(2), 2, 1, 3)
	// Circles do not matter.
	checkRefs(t, heapOf(row(1, handle(0), handle(1)), row(1, handle(0))), handles(0), 3, 1)
	heaps, roots := soundHeaps()
	for i, h := range heaps {
		for _, values := range append(roots, otherValues(), smallValues(), vastValues()) {
			checkRefs(t, h, values, modelCountRefs(h, values)...)
		}
		counts := []int{}
		for _, b := range h.Blocks {
			counts = append(counts, b.Count)
		}
		checkRefs(t, h, roots[i], counts...)
	}
}

func TestIsCounted(t *testing.T) {
	checkCounted(t, impl.Heap{}, nil, true)
	checkCounted(t, impl.Heap{}, heldScalars(), true)
	heaps, roots := soundHeaps()
	for i, h := range heaps {
		checkCounted(t, h, append(slices.Clone(roots[i]), heldScalars()...), true)
		for at, b := range h.Blocks {
			for _, change := range []int{-1, 1, 5} {
				wrong := copiedHeap(h)
				wrong.Blocks[at].Count += change
				checkNotCounted(t, wrong, append(slices.Clone(roots[i]), impl.NullValue()))
			}
			if b.Count > 0 {
				checkNotCounted(t, h, append(slices.Clone(roots[i]), handle(at)))
			}
			if root := slices.IndexFunc(roots[i], func(v impl.Value) bool { return isSame(v, handle(at)) }); root >= 0 {
				checkNotCounted(t, h, slices.Delete(slices.Clone(roots[i]), root, root+1))
			}
		}
		// One root that is not held.
		for _, v := range append(append(badValues(), noHandles(0)...), impl.ArrayValue(), list(handle(0)), handle(-1), handle(99), handle(math.MaxInt)) {
			if !modelIsHeld(h, v) {
				checkNotCounted(t, h, append(slices.Clone(roots[i]), v))
				checkNotCounted(t, h, append([]impl.Value{v}, roots[i]...))
			}
		}
		for _, other := range roots {
			checkCounted(t, h, other, modelIsCounted(h, other))
		}
	}
	// The counts are those of the references to another block.
	checkNotCounted(t, heapOf(row(1), row(2)), handles(0, 0, 1))
	// Each handle counts, but not all of these are held.
	checkNotCounted(t, heapOf(row(2)), []impl.Value{handle(0), {Kind: impl.KindHandle, Next: 1}})
	checkNotCounted(t, heapOf(free(), row(1)), handles(1, 0))
	checkNotCounted(t, heapOf(free(), row(1)), handles(1, 2))
	// A circle keeps its own count, and yet it is no heap.
	checkNotCounted(t, heapOf(row(1, handle(0))), []impl.Value{impl.NullValue()})
}

func TestDropValue(t *testing.T) {
	one := impl.IntValue(1)
	roots := []impl.Value{handle(2), one, handle(0), handle(2), handle(4), impl.TextValue("t")}
	h := heapOf(row(2, one), row(1, handle(0)), row(2, handle(1), one), free(), row(1, handle(5), handle(6), handle(5)), row(3), row(3, handle(5), handle(7)), row(1))
	// The block 6 has two roots more.
	roots = append(roots, handle(6), handle(6))
	checkCounted(t, h, roots, true)
	with := func(edit func(blocks []impl.Block)) impl.Heap {
		changed := copiedHeap(h)
		edit(changed.Blocks)
		return changed
	}
	// Scalars.
	checkDropped(t, h, roots, 1, h, true)
	checkDropped(t, h, roots, 5, h, true)
	// A block that stays, and with it what lies within.
	stays := with(func(b []impl.Block) { b[2].Count = 1 })
	checkDropped(t, h, roots, 0, stays, true)
	checkDropped(t, h, roots, 3, stays, true)
	checkDropped(t, h, roots, 2, with(func(b []impl.Block) { b[0].Count = 1 }), true)
	// A block that becomes free, with one within it that becomes free and one that stays.
	checkDropped(t, h, roots, 4, with(func(b []impl.Block) {
		b[4] = free()
		b[5].Count = 1
		b[6].Count = 2
	}), true)
	checkDropped(t, stays, slices.Delete(slices.Clone(roots), 0, 1), 2, with(func(b []impl.Block) {
		b[0].Count, b[1], b[2] = 1, free(), free()
	}), true)
	checkAllDropped(t, h, roots)
	// What lies within is dropped as often as it stands there, but not what slots had that are not live.
	dead := without(packedTable(3, slot(intKey(0), handle(0)), slot(intKey(1), handle(0)), slot(intKey(2), handle(0))), 1)
	checkDropped(t, heapOf(row(3, one), block(1, dead)), handles(1, 0), 0, heapOf(row(1, one), free()), true)
	checkDropped(t, heapOf(row(2, one), block(1, dead)), handles(1), 0, heapOf(free(), free()), true)
	// Free blocks stay in their places.
	checkDropped(t, heapOf(free(), row(1), free()), handles(1), 0, heapOf(free(), free(), free()), true)
	// A block that becomes free is the zero Block.
	got, _ := impl.DropValue(heapOf(named(1, one)), handles(0), 0)
	if len(got.Blocks) != 1 || len(got.Blocks[0].Table.Heads) != 0 || len(got.Blocks[0].Table.Slots) != 0 || got.Blocks[0].Table.Hashed {
		t.Errorf("DropValue leaves %s", briefHeap(got))
	}
}

func TestDropValueOfWhatIsNoRoot(t *testing.T) {
	heaps, roots := soundHeaps()
	for i, h := range heaps {
		for at := range roots[i] {
			want, ok := modelDropValue(h, roots[i], at)
			checkDropped(t, h, roots[i], at, want, ok)
		}
		for _, at := range []int{-1, -2, len(roots[i]), len(roots[i]) + 1, 1 << 32, math.MaxInt, math.MinInt} {
			checkDropped(t, h, roots[i], at, h, false)
			if len(roots[i]) > 0 {
				checkSetShared(t, h, roots[i], at, nil, false, 0, h, impl.NullValue(), impl.ErrKey)
				checkSetShared(t, h, roots[i], 0, nil, false, at, h, impl.NullValue(), impl.ErrKey)
			}
			checkSetShared(t, h, roots[i], at, nil, true, at, h, impl.NullValue(), impl.ErrKey)
			checkDeleteShared(t, h, roots[i], at, pathOf(0), h, impl.NullValue(), false)
			checkDeleteShared(t, h, roots[i], at, nil, h, impl.NullValue(), false)
		}
		// What lies behind the roots is none of them.
		spare := append(slices.Clone(roots[i]), impl.NullValue())[:len(roots[i])]
		checkDropped(t, h, spare, len(spare), h, false)
		checkSetShared(t, h, spare, len(spare), nil, false, len(spare), h, impl.NullValue(), impl.ErrKey)
	}
}

func TestSetSharedOfTheEmptyPath(t *testing.T) {
	one, text := impl.IntValue(1), impl.TextValue("t")
	for _, v := range heldScalars() {
		for _, x := range heldScalars() {
			checkWritesShared(t, impl.Heap{}, []impl.Value{v, x}, 0, nil, false, 1, impl.Heap{}, x)
			checkWritesShared(t, heapOf(row(1)), []impl.Value{v, handle(0), x}, 2, pathOf(), false, 0, heapOf(row(1)), v)
		}
		checkWritesShared(t, impl.Heap{}, []impl.Value{v}, 0, nil, false, 0, impl.Heap{}, v)
		// An array takes the place of a scalar, and a scalar that of an array.
		checkWritesShared(t, heapOf(row(1, one)), []impl.Value{v, handle(0)}, 0, nil, false, 1, heapOf(row(2, one)), handle(0))
		checkWritesShared(t, heapOf(row(1, one)), []impl.Value{v, handle(0)}, 1, nil, false, 0, heapOf(free()), v)
		checkWritesShared(t, heapOf(row(2, one)), []impl.Value{v, handle(0), handle(0)}, 1, nil, false, 0, heapOf(row(1, one)), v)
	}
	// One array takes the place of another one.
	checkWritesShared(t, heapOf(row(1, one), row(1, text)), handles(0, 1), 0, nil, false, 1, heapOf(free(), row(2, text)), handle(1))
	checkWritesShared(t, heapOf(row(1, one), row(1, text)), handles(0, 1), 1, nil, false, 0, heapOf(row(2, one), free()), handle(0))
	checkWritesShared(t, heapOf(row(2, one), row(1, text)), handles(0, 1, 0), 0, nil, false, 1, heapOf(row(1, one), row(2, text)), handle(1))
	// It takes its own place.
	checkWritesShared(t, heapOf(row(1, one)), handles(0), 0, nil, false, 0, heapOf(row(1, one)), handle(0))
	checkWritesShared(t, heapOf(row(2, one)), handles(0, 0), 0, nil, false, 1, heapOf(row(2, one)), handle(0))
	// What lies within the old array becomes free, or stays since the new one shares it.
	checkWritesShared(t, heapOf(row(1, handle(1), handle(2)), row(1, one), row(2, text), row(1)), handles(0, 2, 3), 0, nil, false, 2, heapOf(free(), free(), row(1, text), row(2)), handle(3))
	checkWritesShared(t, heapOf(row(1, handle(1)), row(2, one)), handles(0, 1), 0, nil, false, 1, heapOf(free(), row(2, one)), handle(1))
	checkWritesShared(t, heapOf(row(1, handle(1)), row(2, one)), handles(0, 1), 1, nil, false, 0, heapOf(row(2, handle(1)), row(1, one)), handle(0))
}

func TestPushingIntoSharedRoots(t *testing.T) {
	one, x := impl.IntValue(1), impl.TextValue("x")
	// Null becomes an array in the first free block, or behind all of them.
	checkWritesShared(t, impl.Heap{}, []impl.Value{impl.NullValue(), x}, 0, nil, true, 1, heapOf(row(1, x)), handle(0))
	checkWritesShared(t, heapOf(row(1, one), free(), free()), []impl.Value{impl.NullValue(), handle(0), x}, 0, nil, true, 2, heapOf(row(1, one), row(1, x), free()), handle(1))
	checkWritesShared(t, heapOf(row(1, one)), []impl.Value{impl.NullValue(), handle(0)}, 0, nil, true, 1, heapOf(row(2, one), row(1, handle(0))), handle(1))
	checkWritesShared(t, impl.Heap{}, []impl.Value{impl.NullValue()}, 0, nil, true, 0, heapOf(row(1, impl.NullValue())), handle(0))
	// A block with the Count 1 stays, any other one is copied.
	checkWritesShared(t, heapOf(row(1, one)), []impl.Value{x, handle(0)}, 1, nil, true, 0, heapOf(row(1, one, x)), handle(0))
	checkWritesShared(t, heapOf(row(2, one)), []impl.Value{x, handle(0), handle(0)}, 1, nil, true, 0, heapOf(row(1, one), row(1, one, x)), handle(1))
	checkWritesShared(t, heapOf(row(3, one), free()), append(handles(0, 0, 0), x), 2, nil, true, 3, heapOf(row(2, one), row(1, one, x)), handle(1))
	// What lies within the copy has one reference more.
	checkWritesShared(t, heapOf(row(2, handle(1), handle(1), one), row(2)), append(handles(0, 0), x), 0, nil, true, 2, heapOf(row(1, handle(1), handle(1), one), row(4), row(1, handle(1), handle(1), one, x)), handle(2))
	checkWritesShared(t, heapOf(row(1, handle(1)), row(1)), append(handles(0), x), 0, nil, true, 1, heapOf(row(1, handle(1), x), row(1)), handle(0))
	// The key is Next, and not the number of slots.
	next := func(count int, extra ...impl.Slot) impl.Block {
		return block(count, hashedTable(8, 9+len(extra), append([]impl.Slot{slot(strKey("a"), one), slot(intKey(-5), one)}, extra...)...))
	}
	checkWritesShared(t, heapOf(next(1)), append(handles(0), x), 0, nil, true, 1, heapOf(next(1, slot(intKey(9), x))), handle(0))
	checkWritesShared(t, heapOf(next(2)), append(handles(0, 0), x), 0, nil, true, 2, heapOf(next(1), next(1, slot(intKey(9), x))), handle(1))
	checkWritesShared(t, heapOf(block(1, packedTable(4, inRow(2)...))), append(handles(0), x), 0, nil, true, 1, heapOf(block(1, hashedTable(8, 5, append(inRow(2), slot(intKey(4), x))...))), handle(0))
	greatest := block(1, hashedTable(8, impl.MaxInt+1, slot(intKey(impl.MaxInt), x)))
	checkWritesShared(t, heapOf(block(1, impl.Table{Next: impl.MaxInt})), append(handles(0), x), 0, nil, true, 1, heapOf(greatest), handle(0))
	// A root is pushed behind its own items.
	checkWritesShared(t, heapOf(row(1, one)), handles(0), 0, nil, true, 0, heapOf(row(1, one), row(1, one, handle(0))), handle(1))
	checkWritesShared(t, heapOf(row(2, one)), handles(0, 0), 0, nil, true, 1, heapOf(row(2, one), row(1, one, handle(0))), handle(1))
	checkWritesShared(t, heapOf(free(), row(1)), handles(1), 0, nil, true, 0, heapOf(row(1, handle(1)), row(1)), handle(0))
}

func TestSetSharedOfOneKey(t *testing.T) {
	one, two, x := impl.IntValue(1), impl.IntValue(2), impl.TextValue("x")
	a := pathOf("a")
	// Null becomes an array.
	checkWritesShared(t, impl.Heap{}, []impl.Value{impl.NullValue(), x}, 0, a, false, 1, heapOf(named(1, x)), handle(0))
	checkWritesShared(t, heapOf(free(), row(1)), []impl.Value{handle(1), impl.NullValue(), x}, 1, pathOf(0), false, 0, heapOf(row(1, handle(1)), row(2)), handle(0))
	// What is there is replaced, and what is missing is added.
	checkWritesShared(t, heapOf(named(1, one, two)), append(handles(0), x), 0, a, false, 1, heapOf(named(1, x, two)), handle(0))
	checkWritesShared(t, heapOf(named(1, one)), append(handles(0), x), 0, pathOf("b"), false, 1, heapOf(named(1, one, x)), handle(0))
	checkWritesShared(t, heapOf(row(1, one)), append(handles(0), x), 0, pathOf(1), false, 1, heapOf(row(1, one, x)), handle(0))
	checkWritesShared(t, heapOf(named(2, one, two)), append(handles(0, 0), x), 1, a, false, 2, heapOf(named(1, one, two), named(1, x, two)), handle(1))
	checkWritesShared(t, heapOf(row(2, one, two), free()), append(handles(0, 0), x), 0, pathOf(1), false, 2, heapOf(row(1, one, two), row(1, one, x)), handle(1))
	// A key that was deleted is added behind, in the copy too.
	dead := block(1, without(named(1, one, two).Table, 0))
	again := block(1, hashedTable(8, 0, append(dead.Table.Slots, slot(strKey("a"), x))...))
	checkWritesShared(t, heapOf(dead), append(handles(0), x), 0, a, false, 1, heapOf(again), handle(0))
	checkWritesShared(t, heapOf(block(2, dead.Table)), append(handles(0, 0), x), 0, a, false, 2, heapOf(dead, again), handle(1))
	// A value that is replaced is dropped, with what lies within it.
	checkWritesShared(t, heapOf(named(1, handle(1), two), row(1, handle(2)), row(1)), append(handles(0), x), 0, a, false, 1, heapOf(named(1, x, two), free(), free()), handle(0))
	checkWritesShared(t, heapOf(named(1, handle(1), two), row(1, handle(2)), row(2)), append(handles(0, 2), x), 0, a, false, 2, heapOf(named(1, x, two), free(), row(1)), handle(0))
	checkWritesShared(t, heapOf(named(2, handle(1), handle(2)), row(1, one), row(1)), append(handles(0, 0), x), 0, a, false, 2, heapOf(named(1, handle(1), handle(2)), row(1, one), row(2), named(1, x, handle(2))), handle(3))
	// What is written is what was there.
	checkWritesShared(t, heapOf(named(1, handle(1)), row(2, one)), handles(0, 1), 0, a, false, 1, heapOf(named(1, handle(1)), row(2, one)), handle(0))
	checkWritesShared(t, heapOf(named(2, handle(1)), row(2, one)), handles(0, 1, 0), 0, a, false, 1, heapOf(named(1, handle(1)), row(3, one), named(1, handle(1))), handle(2))
	// A root is written into itself, and into what it lies in.
	checkWritesShared(t, heapOf(named(1, one)), handles(0), 0, a, false, 0, heapOf(named(1, one), named(1, handle(0))), handle(1))
	checkWritesShared(t, heapOf(named(1, one)), handles(0), 0, pathOf("b"), false, 0, heapOf(named(1, one), named(1, one, handle(0))), handle(1))
	checkWritesShared(t, heapOf(named(2, one)), handles(0, 0), 1, a, false, 0, heapOf(named(2, one), named(1, handle(0))), handle(1))
	checkWritesShared(t, heapOf(named(1, handle(1)), row(2, one)), handles(0, 1), 1, pathOf(0), false, 0, heapOf(named(2, handle(1)), row(1, one), row(1, handle(0))), handle(2))
	// A scalar that a root is shares nothing.
	checkWritesShared(t, heapOf(named(1, one)), []impl.Value{handle(0), number(impl.KindObject, 0)}, 0, a, false, 1, heapOf(named(1, number(impl.KindObject, 0))), handle(0))
}

func TestSetSharedOfLongerPaths(t *testing.T) {
	one, two, x := impl.IntValue(1), impl.IntValue(2), impl.TextValue("x")
	// Null, and what is missing, become arrays, the outer ones first.
	checkWritesShared(t, impl.Heap{}, []impl.Value{impl.NullValue(), x}, 0, pathOf("a", 0, "a"), false, 1, heapOf(named(1, handle(1)), row(1, handle(2)), named(1, x)), handle(0))
	checkWritesShared(t, impl.Heap{}, []impl.Value{impl.NullValue(), x}, 0, pathOf("a", 0), true, 1, heapOf(named(1, handle(1)), row(1, handle(2)), row(1, x)), handle(0))
	checkWritesShared(t, heapOf(named(1, one), free(), row(1, two), free()), []impl.Value{handle(0), x, handle(2)}, 0, pathOf("b", 0, 0), false, 1, heapOf(named(1, one, handle(1)), row(1, handle(3)), row(1, two), row(1, x)), handle(0))
	checkWritesShared(t, heapOf(named(1, impl.NullValue(), one)), append(handles(0), x), 0, pathOf("a", 0), false, 1, heapOf(named(1, handle(1), one), row(1, x)), handle(0))
	checkWritesShared(t, heapOf(named(2, impl.NullValue(), one)), append(handles(0, 0), x), 0, pathOf("a"), true, 2, heapOf(named(1, impl.NullValue(), one), named(1, handle(2), one), row(1, x)), handle(1))
	// The root, the array in the middle and the one at the end, each with the Count 1 or a greater one.
	chain := func(root, middle, end int) impl.Heap {
		return heapOf(named(root, handle(1), one), row(middle, two, handle(2)), named(end, one))
	}
	path := pathOf("a", 1, "a")
	checkWritesShared(t, chain(1, 1, 1), append(handles(0), x), 0, path, false, 1, heapOf(named(1, handle(1), one), row(1, two, handle(2)), named(1, x)), handle(0))
	checkWritesShared(t, chain(2, 1, 1), append(handles(0, 0), x), 0, path, false, 2,
		heapOf(named(1, handle(1), one), row(1, two, handle(2)), named(1, one), named(1, handle(4), one), row(1, two, handle(5)), named(1, x)), handle(3))
	checkWritesShared(t, chain(1, 2, 1), append(handles(0, 1), x), 0, path, false, 2,
		heapOf(named(1, handle(3), one), row(1, two, handle(2)), named(1, one), row(1, two, handle(4)), named(1, x)), handle(0))
	checkWritesShared(t, chain(1, 1, 2), append(handles(0, 2), x), 0, path, false, 2,
		heapOf(named(1, handle(1), one), row(1, two, handle(3)), named(1, one), named(1, x)), handle(0))
	// Pushing is refused here, since a scalar is at the end: without the last key it is not.
	checkSetShared(t, chain(2, 2, 2), append(handles(0, 1, 2, 0), x), 3, path, true, 4, chain(2, 2, 2), handle(0), impl.ErrIndex)
	checkWritesShared(t, chain(2, 2, 2), append(handles(0, 1, 2, 0), x), 3, path[:2], true, 4,
		heapOf(named(1, handle(1), one), row(2, two, handle(2)), named(2, one), named(1, handle(4), one), row(1, two, handle(5)), block(1, hashedTable(8, 1, slot(strKey("a"), one), slot(intKey(0), x)))), handle(3))
	// What is written is the array at the end, the one in the middle, and the root itself.
	checkWritesShared(t, chain(1, 1, 2), handles(0, 2), 0, path, false, 1, heapOf(named(1, handle(1), one), row(1, two, handle(3)), named(2, one), named(1, handle(2))), handle(0))
	checkWritesShared(t, chain(1, 2, 1), handles(0, 1), 0, path, false, 1, heapOf(named(1, handle(3), one), row(2, two, handle(2)), named(1, one), row(1, two, handle(4)), named(1, handle(1))), handle(0))
	checkWritesShared(t, chain(1, 1, 1), handles(0), 0, path, false, 0,
		heapOf(named(1, handle(1), one), row(1, two, handle(2)), named(1, one), named(1, handle(4), one), row(1, two, handle(5)), named(1, handle(0))), handle(3))
	// An array that is replaced at the end of the path becomes free, and so does what lies within.
	checkWritesShared(t, chain(1, 1, 1), append(handles(0), x), 0, path[:2], false, 1, heapOf(named(1, handle(1), one), row(1, two, x), free()), handle(0))
	checkWritesShared(t, chain(1, 1, 1), append(handles(0), x), 0, path[:1], false, 1, heapOf(named(1, x, one), free(), free()), handle(0))
	checkWritesShared(t, chain(1, 1, 2), append(handles(0, 2), x), 0, path[:1], false, 2, heapOf(named(1, x, one), free(), named(1, one)), handle(0))
	// It makes no room for what is allocated on the way to it.
	checkWritesShared(t, chain(1, 2, 1), append(handles(0, 1), x), 0, path[:2], false, 2, heapOf(named(1, handle(3), one), row(1, two, handle(2)), named(1, one), row(1, two, x)), handle(0))
	// The same array stands twice in one array: the other place stays as it was.
	checkWritesShared(t, heapOf(row(1, handle(1), handle(1)), row(2, one)), append(handles(0), x), 0, pathOf(1, 0), false, 1, heapOf(row(1, handle(1), handle(2)), row(1, one), row(1, x)), handle(0))
	checkWritesShared(t, heapOf(row(1, handle(1), handle(1)), row(2, one)), append(handles(0), x), 0, pathOf(0), true, 1, heapOf(row(1, handle(2), handle(1)), row(1, one), row(1, one, x)), handle(0))
	checkWritesShared(t, heapOf(row(1, handle(1), handle(1)), row(2, one)), handles(0), 0, pathOf(0, 0), false, 0,
		heapOf(row(1, handle(1), handle(1)), row(3, one), row(1, handle(3), handle(1)), row(1, handle(0))), handle(2))
}

// chains has a root, an array in the middle and one at the end, with many ways in which others share them, and roots: the root comes first, and last a heavy array. The blocks 0 and 4 are free.
func chains() ([]impl.Heap, [][]impl.Value) {
	var heaps []impl.Heap
	var roots [][]impl.Value
	for shape := range 27 {
		counts, shared := []int{1, 1, 1}, []impl.Value{}
		for i, more := range []int{shape % 3, shape / 3 % 3, shape / 9} {
			counts[i] += more
			shared = append(shared, slices.Repeat(handles(i+1), more)...)
		}
		heaps = append(heaps, heapOf(
			free(), row(counts[0], impl.NullValue(), handle(2), impl.IntValue(5)), named(counts[1], handle(3), impl.TextValue("b")), row(counts[2], impl.IntValue(7), impl.NullValue()),
			free(), row(1, slices.Repeat(handles(6), 9)...), row(9, nulls(20)...)))
		roots = append(roots, append(append(handles(1), shared...), impl.NullValue(), impl.TextValue("t"), number(impl.KindObject, 3), handle(5)))
	}
	return heaps, roots
}

// chainPaths has paths through the arrays of chains, and paths that leave them.
func chainPaths() [][]impl.Key {
	return [][]impl.Key{
		nil, pathOf(0), pathOf(1), pathOf(2), pathOf(3), pathOf(9), pathOf("x"), pathOf(0, 0), pathOf(0, "x"), pathOf(1, "a"), pathOf(1, "b"), pathOf(1, "c"), pathOf(1, 0), pathOf(2, 0), pathOf(3, "new"),
		pathOf(1, "a", 0), pathOf(1, "a", 1), pathOf(1, "a", 2), pathOf(1, "a", "x"), pathOf(1, "b", 0), pathOf(0, 1, 2), pathOf(1, "a", 1, 0), pathOf(1, "a", 0, 0), pathOf(1, "a", 1, "x", "y"), pathOf(60, "a", 0), pathOf("a", 0), pathOf("a"), {intKey(-1), {Num: 1, Str: "1"}},
	}
}

// TestAllWaysOfSharing holds every change of the chains against the model.
func TestAllWaysOfSharing(t *testing.T) {
	heaps, all := chains()
	codes := map[int]int{}
	for i, h := range heaps {
		roots := all[i]
		checkCounted(t, h, roots, true)
		for at := range roots {
			if at > 0 && i%8 > 0 {
				continue
			}
			for n, path := range chainPaths() {
				checkDeleteSharedAsModel(t, h, roots, at, path)
				from := (i + n) % len(roots)
				_, _, code := checkSetSharedAsModel(t, h, roots, at, path, false, from)
				_, _, pushCode := checkSetSharedAsModel(t, h, roots, at, path, true, (from+at)%len(roots))
				codes[code]++
				codes[pushCode]++
			}
		}
	}
	for _, code := range []int{impl.ErrNone, impl.ErrKey, impl.ErrIndex, impl.ErrMemory} {
		if codes[code] < 20 {
			t.Errorf("%d calls give the code %d", codes[code], code)
		}
	}
}

// checkRefusedShared has h and roots for which it is counted.
func checkRefusedShared(t *testing.T, h impl.Heap, roots []impl.Value, at int, path []impl.Key, push bool, from, code int) {
	t.Helper()
	checkCounted(t, h, roots, true)
	root := impl.NullValue()
	if code != impl.ErrKey {
		root = roots[at]
	}
	checkSetShared(t, h, roots, at, path, push, from, h, root, code)
	checkSetSharedAsModel(t, h, roots, at, path, push, from)
}

func TestSetSharedWithWhatIsNoKey(t *testing.T) {
	h := heapOf(named(1, handle(1)), row(1, impl.IntValue(1)))
	roots := append(handles(0), impl.NullValue(), impl.IntValue(5))
	for _, k := range noKeys() {
		for _, path := range [][]impl.Key{{k}, {strKey("a"), k}, {k, intKey(0)}, {strKey("a"), intKey(0), k}, {strKey("a"), k, intKey(0)}} {
			for at := range roots {
				for _, push := range []bool{false, true} {
					checkRefusedShared(t, h, roots, at, path, push, at, impl.ErrKey)
				}
				// Such a key is not found, but the root is one.
				checkDeleteShared(t, h, roots, at, path, h, roots[at], false)
			}
		}
	}
}

func TestSetSharedErrors(t *testing.T) {
	one, x := impl.IntValue(1), impl.TextValue("x")
	// A key is applied to what is no array and not null: to the root, in the middle, and at the end.
	for _, v := range heldScalars()[1:] {
		h := heapOf(named(2, v, handle(1)), row(1, v))
		roots := append(handles(0, 0), v, x)
		for _, push := range []bool{false, true} {
			checkRefusedShared(t, h, roots, 2, pathOf("a"), push, 3, impl.ErrIndex)
			checkRefusedShared(t, h, roots, 0, pathOf("a", "a"), push, 3, impl.ErrIndex)
			checkRefusedShared(t, h, roots, 1, pathOf("a", "a", 0), push, 0, impl.ErrIndex)
			checkRefusedShared(t, h, roots, 0, pathOf("b", 0, 0), push, 0, impl.ErrIndex)
		}
		checkRefusedShared(t, h, roots, 2, nil, true, 3, impl.ErrIndex)
		checkRefusedShared(t, h, roots, 0, pathOf("a"), true, 3, impl.ErrIndex)
		checkRefusedShared(t, h, roots, 0, pathOf("b", 0), true, 3, impl.ErrIndex)
	}
	// There is no key behind the greatest one, at the root and within.
	full := func(count int) impl.Block {
		return block(count, hashedTable(8, impl.MaxInt+1, slot(intKey(impl.MaxInt), one)))
	}
	h := heapOf(full(3), row(1, handle(0), impl.NullValue()))
	roots := append(handles(0, 1, 0), x)
	checkRefusedShared(t, h, roots, 0, nil, true, 3, impl.ErrFull)
	checkRefusedShared(t, h, roots, 1, pathOf(0), true, 0, impl.ErrFull)
	checkRefusedShared(t, heapOf(block(1, impl.Table{Next: impl.MaxInt + 1})), handles(0), 0, nil, true, 0, impl.ErrFull)
	changed := block(1, hashedTable(8, impl.MaxInt+1, slot(intKey(impl.MaxInt), x)))
	checkWritesShared(t, h, roots, 0, pathOf(impl.MaxInt), false, 3, heapOf(full(2), row(1, handle(0), impl.NullValue()), changed), handle(2))
}

// TestWeightsOfSharedWriting has results that weigh just MaxWeight, and one more: what is shared counts wherever it stands.
func TestWeightsOfSharedWriting(t *testing.T) {
	for _, c := range []struct {
		inner, places int
		path          []impl.Key
		push, isLight bool
	}{
		{198, 0, nil, true, true}, {199, 0, nil, true, false}, {199, 0, nil, false, true}, {198, 0, pathOf("a"), false, true}, {197, 0, pathOf("a"), true, true}, {198, 0, pathOf("a"), true, false}, {197, 0, pathOf("a", "b"), false, true}, {198, 0, pathOf("a", "b"), false, false},
		{0, 198, nil, true, true}, {0, 199, nil, true, false}, {48, 3, nil, true, true}, {48, 4, nil, true, false}, {65, 2, nil, true, true}, {66, 2, nil, true, false}, {65, 2, pathOf("a"), false, true}, {66, 2, pathOf("a"), false, false}, {65, 2, pathOf("a"), true, true}, {66, 2, pathOf("a"), true, false},
		{98, 2, pathOf(0), false, true}, {98, 2, pathOf(0), true, false}, {66, 2, pathOf(0), false, true}, {66, 2, pathOf(0), true, false}, {65, 2, pathOf(0), true, true}, {49, 3, pathOf(2, 0), false, true}, {50, 3, pathOf(2, 0), false, false}, {198, 1, pathOf(0, "a"), false, false},
	} {
		h := heapOf(row(c.places+1, nulls(c.inner)...), row(1, slices.Repeat(handles(0), c.places)...))
		roots := []impl.Value{handle(1), handle(0), impl.IntValue(1)}
		checkCounted(t, h, roots, true)
		want, root, code := modelSetShared(h, roots, 0, c.path, c.push, 1)
		if (code == impl.ErrNone) != c.isLight || (code == impl.ErrMemory) == c.isLight {
			t.Errorf("the model gives the code %d for %+v", code, c)
		}
		checkSetShared(t, h, roots, 0, c.path, c.push, 1, want, root, code)
		checkSetSharedAsModel(t, h, roots, 0, c.path, c.push, 1)
	}
	// What is replaced does not count, but what is written does.
	h := heapOf(row(1, nulls(199)...), row(1, nulls(198)...))
	roots := append(handles(0, 1), impl.NullValue())
	checkRefusedShared(t, h, roots, 0, pathOf(0), false, 1, impl.ErrMemory)
	checkRefusedShared(t, h, roots, 0, pathOf(5, 5), false, 2, impl.ErrMemory)
	checkRefusedShared(t, h, roots, 0, nil, true, 2, impl.ErrMemory)
	checkRefusedShared(t, h, roots, 2, zeros(200), false, 2, impl.ErrMemory)
	checkRefusedShared(t, h, roots, 0, nil, true, 0, impl.ErrMemory)
	checkWritesShared(t, h, roots, 0, pathOf(198), false, 2, h, handle(0))
	checkWritesShared(t, h, roots, 2, pathOf(0), false, 1, heapOf(h.Blocks[0], row(2, nulls(198)...), row(1, handle(1))), handle(2))
	// The longest path.
	deep, root, code := checkSetSharedAsModel(t, h, roots, 2, zeros(199), false, 2)
	if code != impl.ErrNone || len(deep.Blocks) != 201 || !isSame(root, handle(2)) {
		t.Errorf("%s, %s, %d", briefHeap(deep), brief(root), code)
	}
	checkRefusedShared(t, deep, append(handles(0, 1, 2), impl.NullValue()), 2, zeros(199), true, 3, impl.ErrMemory)
	checkDeleteSharedAsModel(t, deep, handles(0, 1, 2), 2, zeros(199))
}

// TestSetSharedOrderOfErrors has calls for which two reasons apply.
func TestSetSharedOrderOfErrors(t *testing.T) {
	one, bad := impl.IntValue(1), intKey(impl.MaxInt+1)
	full := block(1, hashedTable(8, impl.MaxInt+1, slot(intKey(0), one)))
	h := heapOf(row(1, one), row(1, nulls(199)...), full)
	roots := append(handles(0, 1, 2), one)
	// A key that is none comes before all that SetPath reports otherwise.
	checkRefusedShared(t, h, roots, 0, []impl.Key{{}, bad}, false, 0, impl.ErrKey)
	checkRefusedShared(t, h, roots, 3, []impl.Key{bad}, true, 0, impl.ErrKey)
	checkRefusedShared(t, h, roots, 0, []impl.Key{{Num: 1}, bad}, true, 1, impl.ErrKey)
	// What cannot be gone into comes before the weight, and before the Next of what is not reached.
	checkRefusedShared(t, h, roots, 1, []impl.Key{{Num: 300}, {}}, true, 1, impl.ErrMemory)
	checkRefusedShared(t, h, roots, 0, []impl.Key{{}}, true, 1, impl.ErrIndex)
	checkRefusedShared(t, h, roots, 3, nil, true, 1, impl.ErrIndex)
	checkRefusedShared(t, h, roots, 2, []impl.Key{{}}, true, 1, impl.ErrIndex)
	checkRefusedShared(t, h, roots, 2, []impl.Key{{}, {}}, false, 1, impl.ErrIndex)
	// The Next comes before the weight.
	checkRefusedShared(t, h, roots, 2, nil, true, 1, impl.ErrFull)
	heavy := nullSlots(199)
	heavy[198].Key = intKey(impl.MaxInt)
	h = heapOf(block(1, hashedTable(256, impl.MaxInt+1, heavy...)))
	checkRefusedShared(t, h, handles(0), 0, nil, true, 0, impl.ErrFull)
	checkRefusedShared(t, h, handles(0), 0, pathOf(199), false, 0, impl.ErrMemory)
	// An index that is none, a heap that is not counted and a key that is none: each with h and null.
	wrong := heapOf(row(2, one))
	for _, at := range []int{-1, 0, 1} {
		for _, from := range []int{-1, 0, 1} {
			checkSetShared(t, wrong, handles(0), at, []impl.Key{bad}, false, from, wrong, impl.NullValue(), impl.ErrKey)
			checkSetShared(t, wrong, handles(0), at, pathOf(0), true, from, wrong, impl.NullValue(), impl.ErrKey)
			if at != 0 || from != 0 {
				checkSetShared(t, heapOf(row(1, one)), handles(0), at, []impl.Key{bad}, false, from, heapOf(row(1, one)), impl.NullValue(), impl.ErrKey)
			}
		}
		checkDeleteShared(t, wrong, handles(0), at, nil, wrong, impl.NullValue(), false)
		checkDeleteShared(t, wrong, handles(0), at, pathOf(0), wrong, impl.NullValue(), false)
		checkDeleteShared(t, wrong, handles(0), at, pathOf("missing"), wrong, impl.NullValue(), false)
	}
}

func TestDeleteShared(t *testing.T) {
	one, two := impl.IntValue(1), impl.IntValue(2)
	gone := func(b impl.Block, indexes ...int) impl.Block { return block(b.Count, without(b.Table, indexes...)) }
	// One key: the slot is deleted where the Count is 1, and in a copy otherwise.
	checkDeletesShared(t, heapOf(row(1, one, two)), handles(0), 0, pathOf(0), heapOf(gone(row(1, one, two), 0)), handle(0))
	checkDeletesShared(t, heapOf(named(1, one, two)), handles(0), 0, pathOf("b"), heapOf(gone(named(1, one, two), 1)), handle(0))
	checkDeletesShared(t, heapOf(row(2, one, two)), handles(0, 0), 1, pathOf(1), heapOf(row(1, one, two), gone(row(1, one, two), 1)), handle(1))
	checkDeletesShared(t, heapOf(free(), row(3, one)), handles(1, 1, 1), 0, pathOf(0), heapOf(gone(row(1, one), 0), row(2, one)), handle(0))
	checkDeletesShared(t, heapOf(row(1, impl.NullValue())), handles(0), 0, pathOf(0), heapOf(gone(row(1, one), 0)), handle(0))
	// What was there is dropped, with what lies within it.
	checkDeletesShared(t, heapOf(row(1, handle(1), one), row(1, handle(2), handle(3)), row(1), row(2)), handles(0, 3), 0, pathOf(0), heapOf(gone(row(1, handle(1), one), 0), free(), free(), row(1)), handle(0))
	checkDeletesShared(t, heapOf(row(1, handle(1)), row(2, one)), handles(0, 1), 0, pathOf(0), heapOf(gone(row(1, one), 0), row(1, one)), handle(0))
	// In a copy what was there goes too, and all else is shared.
	checkDeletesShared(t, heapOf(row(2, handle(1), handle(2)), row(1, one), row(1, two)), handles(0, 0), 0, pathOf(0),
		heapOf(row(1, handle(1), handle(2)), row(1, one), row(2, two), gone(row(1, one, handle(2)), 0)), handle(3))
	chain := func(root, middle, end int) impl.Heap {
		return heapOf(named(root, handle(1), one), row(middle, two, handle(2)), named(end, one, two))
	}
	path, last := pathOf("a", 1, "a"), gone(named(1, one, two), 0)
	checkDeletesShared(t, chain(1, 1, 1), handles(0), 0, path, heapOf(named(1, handle(1), one), row(1, two, handle(2)), last), handle(0))
	checkDeletesShared(t, chain(2, 1, 1), handles(0, 0), 0, path,
		heapOf(named(1, handle(1), one), row(1, two, handle(2)), named(1, one, two), named(1, handle(4), one), row(1, two, handle(5)), last), handle(3))
	checkDeletesShared(t, chain(1, 2, 1), handles(0, 1), 0, path,
		heapOf(named(1, handle(3), one), row(1, two, handle(2)), named(1, one, two), row(1, two, handle(4)), last), handle(0))
	checkDeletesShared(t, chain(1, 1, 2), handles(0, 2), 0, path, heapOf(named(1, handle(1), one), row(1, two, handle(3)), named(1, one, two), last), handle(0))
	// Two keys: what is deleted is not made one's own before.
	checkDeletesShared(t, chain(1, 1, 2), handles(0, 2), 0, path[:2], heapOf(named(1, handle(1), one), gone(row(1, two, one), 1), named(1, one, two)), handle(0))
	checkDeletesShared(t, chain(1, 1, 1), handles(0), 0, path[:2], heapOf(named(1, handle(1), one), gone(row(1, two, one), 1), free()), handle(0))
	checkDeletesShared(t, chain(1, 2, 1), handles(0, 1), 0, path[:2], heapOf(named(1, handle(3), one), row(1, two, handle(2)), named(1, one, two), gone(row(1, two, one), 1)), handle(0))
	checkDeletesShared(t, chain(1, 2, 2), handles(0, 1, 2), 0, path[:1], heapOf(gone(named(1, one, one), 0), row(1, two, handle(2)), named(2, one, two)), handle(0))
	// The same array stands twice in one array: the other place stays as it was.
	checkDeletesShared(t, heapOf(row(1, handle(1), handle(1)), row(2, one)), handles(0), 0, pathOf(0, 0), heapOf(row(1, handle(2), handle(1)), row(1, one), gone(row(1, one), 0)), handle(0))
	checkDeletesShared(t, heapOf(row(1, handle(1), handle(1)), row(2, one)), handles(0), 0, pathOf(1), heapOf(gone(row(1, handle(1), one), 1), row(1, one)), handle(0))
}

func TestDeleteSharedOfWhatIsNotThere(t *testing.T) {
	heaps, roots := soundHeaps()
	for i, h := range heaps {
		for at, root := range roots[i] {
			checkDeleteShared(t, h, roots[i], at, nil, h, root, false)
			checkDeleteShared(t, h, roots[i], at, pathOf(), h, root, false)
			checkDeleteShared(t, h, roots[i], at, zeros(3000), h, root, false)
		}
	}
	dead := without(named(1, handle(1), impl.IntValue(1)).Table, 1)
	h := heapOf(block(2, dead), row(1, impl.NullValue(), handle(2), impl.IntValue(5)), row(1))
	all := append(handles(0, 0), heldScalars()...)
	for _, path := range [][]impl.Key{
		// The first key, one in the middle, and the last one.
		pathOf("x"), pathOf("x", 1, 0), pathOf(0), pathOf("b"), pathOf("b", 0), pathOf("a", "x", 0), pathOf("a", 9, 0, 0), pathOf("a", 0, 0), pathOf("a", 2, 0), pathOf("a", 3), pathOf("a", "0"), pathOf("a", -1), pathOf("a", 1, 0), pathOf("a", 1, "a"),
	} {
		for at, root := range all {
			checkCounted(t, h, all, true)
			checkDeleteShared(t, h, all, at, path, h, root, false)
		}
	}
}

// sharedState is a heap with its roots, and the values that the roots represent, each by itself.
type sharedState struct {
	heap   impl.Heap
	roots  []impl.Value
	values []impl.Value
}

func (s *sharedState) add(h impl.Heap, root, value impl.Value) {
	s.heap, s.roots, s.values = h, append(slices.Clone(s.roots), root), append(s.values, value)
}

// change puts a root and its value into the place of others.
func (s *sharedState) change(h impl.Heap, at int, root, value impl.Value) {
	s.heap, s.roots = h, slices.Clone(s.roots)
	s.roots[at], s.values[at] = root, value
}

func (s *sharedState) drop(t *testing.T, at int) {
	want, _ := modelDropValue(s.heap, s.roots, at)
	checkDropped(t, s.heap, s.roots, at, want, true)
	s.heap, s.roots, s.values = want, slices.Delete(slices.Clone(s.roots), at, at+1), slices.Delete(s.values, at, at+1)
}

func (s *sharedState) share(t *testing.T, at int) {
	want, _ := modelShareValue(s.heap, s.roots[at])
	checkShared(t, s.heap, s.roots[at], want, true)
	s.add(want, s.roots[at], s.values[at])
}

func (s *sharedState) store(t *testing.T, v impl.Value) {
	want, held, _ := modelStore(s.heap, v)
	checkStored(t, s.heap, v, want, held, true)
	s.add(want, held, v)
}

func (s *sharedState) delete(t *testing.T, at int, path []impl.Key) {
	want, root, ok := modelDeleteShared(s.heap, s.roots, at, path)
	checkDeleteShared(t, s.heap, s.roots, at, path, want, root, ok)
	if _, isThere := impl.GetPath(s.values[at], path); ok != (isThere && len(path) > 0) {
		t.Fatalf("DeleteShared(%s, %s, %d, %s) reports %v", briefHeap(s.heap), briefList(s.roots), at, briefPath(path), ok)
	}
	s.change(want, at, root, impl.DeletePath(s.values[at], path))
}

// set returns the code of the writing.
func (s *sharedState) set(t *testing.T, at int, path []impl.Key, push bool, from int) int {
	want, root, code := modelSetShared(s.heap, s.roots, at, path, push, from)
	checkSetShared(t, s.heap, s.roots, at, path, push, from, want, root, code)
	value, valueCode := impl.SetPath(s.values[at], path, push, s.values[from])
	if code != valueCode {
		t.Fatalf("SetShared gives the code %d, SetPath %d", code, valueCode)
	}
	s.change(want, at, root, value)
	return code
}

func (s *sharedState) check(t *testing.T) {
	checkCounted(t, s.heap, s.roots, true)
	for i, root := range s.roots {
		checkLoaded(t, s.heap, root, s.values[i], true)
	}
}

// TestSharedArraysAreWrittenUnseen is the promise in its own words: many changes of shared arrays in a row, next to the same changes of values that share nothing.
func TestSharedArraysAreWrittenUnseen(t *testing.T) {
	codes, most := map[int]int{}, 0
	for seed := range 60 {
		random := rand.New(rand.NewSource(int64(seed)))
		s := &sharedState{}
		for range 60 {
			if len(s.roots) < 2 || random.Intn(8) == 0 && len(s.roots) < 8 {
				s.store(t, randomTree(random, random.Intn(4)))
				continue
			}
			at, from := random.Intn(len(s.roots)), random.Intn(len(s.roots))
			switch random.Intn(10) {
			case 0:
				s.share(t, at)
			case 1:
				s.drop(t, at)
			case 2, 3:
				s.delete(t, at, randomPath(random, s.values[at]))
			default:
				codes[s.set(t, at, randomPath(random, s.values[at]), random.Intn(2) == 0, from)]++
			}
			s.check(t)
			most = max(most, len(s.heap.Blocks))
			if t.Failed() {
				t.Fatalf("the seed is %d", seed)
			}
		}
		for len(s.roots) > 0 {
			s.drop(t, random.Intn(len(s.roots)))
			s.check(t)
		}
		checkSameHeap(t, "what is left", s.heap, heapOf(make([]impl.Block, len(s.heap.Blocks))...))
	}
	if codes[impl.ErrNone] < 500 || codes[impl.ErrIndex] < 100 || codes[impl.ErrFull] < 5 || codes[impl.ErrMemory] < 10 || most < 30 {
		t.Errorf("the codes are %v, and there are at most %d blocks", codes, most)
	}
}

// TestEveryFunctionOfUnsoundHeaps changes sound heaps in one place each.
func TestEveryFunctionOfUnsoundHeaps(t *testing.T) {
	heaps, all := soundHeaps()
	chained, chainedRoots := chains()
	heaps, all = append(heaps, chained[26]), append(all, chainedRoots[26])
	for i, h := range heaps {
		roots := append(slices.Clone(all[i]), impl.NullValue())
		for at := range h.Blocks {
			for _, edit := range []func(b *impl.Block){
				func(b *impl.Block) { b.Count = -b.Count },
				func(b *impl.Block) { b.Count = 0 },
				func(b *impl.Block) { b.Count++ },
				func(b *impl.Block) { b.Table.Next-- },
				func(b *impl.Block) { b.Table.Count++ },
				func(b *impl.Block) { b.Table.Hashed = !b.Table.Hashed },
				func(b *impl.Block) { b.Table = row(1, handle(at)).Table },
				func(b *impl.Block) { b.Table = row(1, handle(len(h.Blocks)-1)).Table },
				func(b *impl.Block) { b.Table = row(1, list(handle(0))).Table },
				func(b *impl.Block) { *b = free() },
			} {
				changed := copiedHeap(h)
				edit(&changed.Blocks[at])
				checkIsHeap(t, changed, modelIsHeap(changed))
				checkCounted(t, changed, roots, modelIsCounted(changed, roots))
				checkRefs(t, changed, roots, modelCountRefs(changed, roots)...)
				for at, v := range roots {
					stored, held, ok := modelStore(changed, list(v))
					checkStored(t, changed, list(v), stored, held, ok)
					loaded, ok := modelLoad(changed, v)
					checkLoaded(t, changed, v, loaded, ok)
					shared, ok := modelShareValue(changed, v)
					checkShared(t, changed, v, shared, ok)
					dropped, ok := modelDropValue(changed, roots, at)
					checkDropped(t, changed, roots, at, dropped, ok)
					checkSetSharedAsModel(t, changed, roots, at, pathOf(0), false, 0)
					checkDeleteSharedAsModel(t, changed, roots, at, pathOf(0))
				}
			}
		}
	}
}

// heapCall is a function of this chapter, with all that it gives back. Numbers are the heads of a table.
type heapCall struct {
	name string
	call func(h impl.Heap, roots []impl.Value, at int, path []impl.Key) ([]impl.Heap, []impl.Value)
}

func heapCalls() []heapCall {
	reported := func(ok bool) ([]impl.Heap, []impl.Value) {
		return nil, []impl.Value{impl.BoolValue(ok)}
	}
	given := func(h impl.Heap, ok bool) ([]impl.Heap, []impl.Value) {
		return []impl.Heap{h}, []impl.Value{impl.BoolValue(ok)}
	}
	made := func(h impl.Heap, v impl.Value, ok bool) ([]impl.Heap, []impl.Value) {
		return []impl.Heap{h}, []impl.Value{v, impl.BoolValue(ok)}
	}
	written := func(h impl.Heap, v impl.Value, code int) ([]impl.Heap, []impl.Value) {
		return []impl.Heap{h}, []impl.Value{v, impl.IntValue(code)}
	}
	return []heapCall{
		{"IsHeld", func(h impl.Heap, roots []impl.Value, at int, path []impl.Key) ([]impl.Heap, []impl.Value) {
			return reported(impl.IsHeld(h, roots[at]))
		}},
		{"IsHeap", func(h impl.Heap, roots []impl.Value, at int, path []impl.Key) ([]impl.Heap, []impl.Value) {
			return reported(impl.IsHeap(h))
		}},
		{"StoreValue", func(h impl.Heap, roots []impl.Value, at int, path []impl.Key) ([]impl.Heap, []impl.Value) {
			return made(impl.StoreValue(h, roots[at]))
		}},
		{"LoadValue", func(h impl.Heap, roots []impl.Value, at int, path []impl.Key) ([]impl.Heap, []impl.Value) {
			v, ok := impl.LoadValue(h, roots[at])
			return made(impl.Heap{}, v, ok)
		}},
		{"ShareValue", func(h impl.Heap, roots []impl.Value, at int, path []impl.Key) ([]impl.Heap, []impl.Value) {
			return given(impl.ShareValue(h, roots[at]))
		}},
		{"CountRefs", func(h impl.Heap, roots []impl.Value, at int, path []impl.Key) ([]impl.Heap, []impl.Value) {
			return []impl.Heap{heapOf(block(0, impl.Table{Heads: impl.CountRefs(h, roots)}))}, nil
		}},
		{"IsCounted", func(h impl.Heap, roots []impl.Value, at int, path []impl.Key) ([]impl.Heap, []impl.Value) {
			return reported(impl.IsCounted(h, roots))
		}},
		{"DropValue", func(h impl.Heap, roots []impl.Value, at int, path []impl.Key) ([]impl.Heap, []impl.Value) {
			return given(impl.DropValue(h, roots, at))
		}},
		{"SetShared", func(h impl.Heap, roots []impl.Value, at int, path []impl.Key) ([]impl.Heap, []impl.Value) {
			return written(impl.SetShared(h, roots, at, path, false, len(roots)/2))
		}},
		{"SetShared with push", func(h impl.Heap, roots []impl.Value, at int, path []impl.Key) ([]impl.Heap, []impl.Value) {
			return written(impl.SetShared(h, roots, at, path, true, len(roots)/2))
		}},
		{"DeleteShared", func(h impl.Heap, roots []impl.Value, at int, path []impl.Key) ([]impl.Heap, []impl.Value) {
			return made(impl.DeleteShared(h, roots, at, path))
		}},
	}
}

// roomyHeap has memory behind its blocks and their lists that looks like some of a heap.
func roomyHeap(h impl.Heap) impl.Heap {
	count := len(h.Blocks)
	blocks := append(append(make([]impl.Block, 0, count+9), h.Blocks...), free(), row(3, impl.TextValue("spare")), free())[:count]
	for i := range blocks {
		blocks[i].Table = roomyTable(blocks[i].Table)
	}
	return impl.Heap{Blocks: blocks}
}

// sharingHeaps has heaps, sound or not, and roots whose texts and lists lie in the same memory.
func sharingHeaps() ([]impl.Heap, [][]impl.Value) {
	heaps, roots := soundHeaps()
	text := impl.TextValue("shared text")
	key := strKey(text.Str)
	texts := hashedTable(8, 3, slot(key, text), slot(strKey("other"), handle(1)), slot(intKey(2), text))
	heaps = append(heaps, heapOf(block(2, texts), block(2, texts), free(), block(1, texts)))
	// Both tables lie in the same memory: their handles lead to the block 4.
	heaps[len(heaps)-1].Blocks[1].Table = packedTable(2, slot(intKey(0), text), slot(intKey(1), text))
	roots = append(roots, []impl.Value{handle(0), handle(0), handle(3), impl.NullValue(), text, text})
	same := packedTable(2, slot(intKey(0), handle(2)), slot(intKey(1), text))
	heaps = append(heaps, heapOf(block(1, same), block(2, same), row(2, text, text)))
	roots = append(roots, append(handles(1, 0, 1), text, text))
	for i, table := range sharingTables() {
		heaps = append(heaps, heapOf(block(1, table), block(i-1, table), row(5, sharingArguments()[i:i+3]...), block(0, table)))
		roots = append(roots, []impl.Value{sharingOperands()[i], handle(2), {Kind: impl.KindHandle, Items: list(text, list(text)).Items}})
	}
	for i := range heaps {
		heaps[i] = roomyHeap(heaps[i])
		roots[i] = append(append(make([]impl.Value, 0, 99), roots[i]...), text, impl.NullValue(), text)[:len(roots[i])+1]
	}
	return heaps, roots
}

func heapPaths() [][]impl.Key {
	paths := [][]impl.Key{nil, pathOf(0), pathOf("shared text"), pathOf("other", 1), pathOf(0, 1), pathOf("new", "new"), {intKey(impl.MaxInt + 1)}}
	for _, path := range paths {
		for i := range path {
			// Constant texts of one program may lie in one place.
			path[i].Str = strings.Clone(path[i].Str)
		}
	}
	return paths
}

// heapMemory is where the lists of blocks lie too.
type heapMemory struct {
	tableMemory
	blocks map[*impl.Block]bool
}

func newHeapMemory() heapMemory {
	return heapMemory{newTableMemory(), map[*impl.Block]bool{}}
}

// addHeap adds the memory of a heap, also that behind its lists, and reports how many items, slots, heads and blocks it has seen.
func (m heapMemory) addHeap(h impl.Heap) int {
	all := h.Blocks[:cap(h.Blocks)]
	seen := len(all)
	for i := range all {
		m.blocks[&all[i]] = true
		seen += m.addTable(all[i].Table)
	}
	return seen
}

func (m heapMemory) size() int {
	return len(m.items) + len(m.slots) + len(m.heads) + len(m.blocks)
}

func TestResultsOfHeapsShareNoMemory(t *testing.T) {
	heaps, all := sharingHeaps()
	for _, c := range heapCalls() {
		for i, h := range heaps {
			for at := range all[i] {
				for _, path := range heapPaths() {
					given, got := newHeapMemory(), newHeapMemory()
					given.addHeap(h)
					for _, v := range all[i][:cap(all[i])] {
						given.addValue(v)
					}
					for _, k := range path {
						given.addText(k.Str)
					}
					results, values := c.call(h, all[i], at, path)
					seen := 0
					for _, r := range results {
						seen += got.addHeap(r)
					}
					for _, r := range values {
						seen += got.addValue(r)
					}
					if overlap(got.blocks, given.blocks) || got.meetsTable(given.tableMemory) {
						t.Fatalf("%s of %s, %s, %d and %s shares memory with them", c.name, briefHeap(h), briefList(all[i]), at, briefPath(path))
					}
					if seen != got.size() {
						t.Fatalf("%s of %s, %s, %d and %s has two lists in the same memory", c.name, briefHeap(h), briefList(all[i]), at, briefPath(path))
					}
				}
			}
		}
	}
}

// textsOfHeap returns every string in a heap and in values.
func textsOfHeap(h impl.Heap, values ...impl.Value) []string {
	var l []string
	for _, v := range values {
		l = append(l, textsOf(v)...)
	}
	for _, b := range h.Blocks {
		for _, s := range b.Table.Slots {
			l = append(append(l, s.Key.Str), textsOf(s.Val)...)
		}
	}
	return l
}

// TestTextsInHeapsAreTheirOwn has arrays, roots and paths with one text in all places.
func TestTextsInHeapsAreTheirOwn(t *testing.T) {
	text := impl.TextValue("one text")
	k := strKey(text.Str)
	table := hashedTable(8, 0, slot(k, handle(1)), slot(strKey(text.Str[:3]), text))
	h := heapOf(block(3, table), block(1, hashedTable(8, 0, slot(k, text))))
	roots := append(handles(0, 0, 0), text, impl.NullValue())
	for _, c := range heapCalls() {
		for at := range roots {
			for _, path := range [][]impl.Key{nil, {k}, {k, k}, {strKey(text.Str[4:])}, {strKey(text.Str[4:]), k, k}} {
				heaps, values := c.call(h, roots, at, path)
				var texts []string
				for _, r := range heaps {
					texts = append(texts, textsOfHeap(r)...)
				}
				texts = append(texts, textsOfHeap(impl.Heap{}, values...)...)
				for i, s := range texts {
					if lieTogether(s, text.Str) {
						t.Fatalf("%s with %s gives a text of its arguments", c.name, briefPath(path))
					}
					for _, other := range texts[:i] {
						if lieTogether(s, other) {
							t.Fatalf("%s with %s gives two texts that lie together", c.name, briefPath(path))
						}
					}
				}
			}
		}
	}
}

// withSpareBlocks is a copy of a heap with all that lies behind its lists, as parts of them.
func withSpareBlocks(h impl.Heap) impl.Heap {
	h = copiedHeap(h)
	h.Blocks = h.Blocks[:cap(h.Blocks)]
	for i := range h.Blocks {
		h.Blocks[i].Table = withSpareSlots(h.Blocks[i].Table)
	}
	return h
}

func spoilHeap(h impl.Heap) {
	all := h.Blocks[:cap(h.Blocks)]
	for i := range all {
		spoilTable(all[i].Table)
		all[i] = row(-99, impl.TextValue("spoilt"))
	}
}

func spoilAll(heaps []impl.Heap, values []impl.Value) {
	for _, h := range heaps {
		spoilHeap(h)
	}
	for i := range values {
		spoil(values[i])
		values[i] = impl.TextValue("spoilt")
	}
}

func TestArgumentsOfHeapsStayAsTheyWere(t *testing.T) {
	for _, c := range heapCalls() {
		heaps, all := sharingHeaps()
		for i, h := range heaps {
			roots := all[i][:cap(all[i])]
			before, rootsBefore := withSpareBlocks(h), []impl.Value{}
			for _, v := range roots {
				rootsBefore = append(rootsBefore, withSpare(v))
			}
			for at := range all[i] {
				for _, path := range heapPaths() {
					pathBefore := slices.Clone(path)
					results, values := c.call(h, all[i], at, path)
					spoilAll(results, values)
					if !slices.Equal(path, pathBefore) {
						t.Fatalf("%s changes its path", c.name)
					}
				}
			}
			rootsAfter := []impl.Value{}
			for _, v := range roots {
				rootsAfter = append(rootsAfter, withSpare(v))
			}
			if !reflect.DeepEqual(withSpareBlocks(h), before) || !reflect.DeepEqual(rootsAfter, rootsBefore) {
				t.Fatalf("%s of %s and %s, or a change of its result, changes them", c.name, briefHeap(before), briefList(rootsBefore))
			}
		}
	}
}

// heapResult is what a call gives.
type heapResult struct {
	heaps  []impl.Heap
	values []impl.Value
}

func callAll(c heapCall, heaps []impl.Heap, all [][]impl.Value, path []impl.Key) []heapResult {
	var results []heapResult
	for i, h := range heaps {
		for at := range min(len(all[i]), 4) {
			changed, values := c.call(h, all[i], at, path)
			results = append(results, heapResult{changed, values})
		}
	}
	return results
}

// TestChangedArgumentsDoNotChangeHeaps changes the heaps, the roots and the path, deep inside, after the calls.
func TestChangedArgumentsDoNotChangeHeaps(t *testing.T) {
	for _, c := range heapCalls() {
		for n := range heapPaths() {
			heaps, all := sharingHeaps()
			path := heapPaths()[n]
			results := callAll(c, heaps, all, path)
			for i := range heaps {
				spoilAll(heaps[i:i+1], all[i])
			}
			for j := range path {
				path[j] = strKey("spoilt")
			}
			heaps, all = sharingHeaps()
			for i, want := range callAll(c, heaps, all, heapPaths()[n]) {
				if !slices.EqualFunc(results[i].heaps, want.heaps, isSameHeap) || !slices.EqualFunc(results[i].values, want.values, isSame) {
					t.Fatalf("the result of %s changes with its arguments", c.name)
				}
			}
		}
	}
}

func TestHeapsAreRepeatable(t *testing.T) {
	heaps, all := sharingHeaps()
	for _, c := range heapCalls() {
		for i, h := range heaps {
			for at := range all[i] {
				for _, path := range heapPaths() {
					results, values := c.call(h, all[i], at, path)
					c.call(heaps[3], all[3], 0, pathOf("other"))
					again, againValues := c.call(h, all[i], at, path)
					if !slices.EqualFunc(results, again, isSameHeap) || !slices.EqualFunc(values, againValues, isSame) {
						t.Errorf("%s of %s and %s is another one the second time", c.name, briefHeap(h), briefPath(path))
					}
				}
			}
		}
	}
}

// TestBlocksInOneMemory writes into one of two blocks whose tables lie in the same memory: the other one stays.
func TestBlocksInOneMemory(t *testing.T) {
	one, x := impl.IntValue(1), impl.TextValue("x")
	slots := append(make([]impl.Slot, 0, 9), slot(intKey(0), one))
	table := packedTable(1, slots...)
	roots := append(handles(0, 1), x)
	checkWritesShared(t, heapOf(block(1, table), block(1, table)), roots, 0, pathOf(0), false, 2, heapOf(row(1, x), row(1, one)), handle(0))
	checkWritesShared(t, heapOf(block(1, table), block(1, table)), roots, 1, nil, true, 2, heapOf(row(1, one), row(1, one, x)), handle(1))
	checkDeletesShared(t, heapOf(block(1, table), block(1, table)), roots, 0, pathOf(0), heapOf(block(1, without(table, 0)), row(1, one)), handle(0))
	checkDropped(t, heapOf(block(1, table), block(1, table)), roots, 1, heapOf(row(1, one), free()), true)
	if len(slots) != 1 || !isSame(slots[0].Val, one) || slots[:2][1].Live {
		t.Errorf("the slots are %v", slots[:2])
	}
}

// TestHeapsDeeperThanCalls would run out of stack if a function called itself for each block of a chain, or for each array of a value that is not held.
func TestHeapsDeeperThanCalls(t *testing.T) {
	defer debug.SetMaxStack(debug.SetMaxStack(1 << 20))
	const count = 100000
	up, down := []impl.Block{row(1)}, []impl.Block{}
	for i := range count {
		up, down = append(up, row(1, handle(i))), append(down, row(1, handle(i+1)))
	}
	down = append(down, row(1))
	deep := nested(count, impl.IntValue(1))
	roots := []impl.Value{handle(count), handle(0), deep, impl.IntValue(1)}
	for _, h := range []impl.Heap{heapOf(up...), heapOf(down...), heapOf(row(1, deep, deep))} {
		for _, c := range heapCalls() {
			for at := range roots {
				c.call(h, roots, at, pathOf(0))
			}
		}
		checkIsHeap(t, h, false)
	}
}

// TestHeapsOfVastValues has slots and roots whose values are endless, or too many to be copied one by one: no function looks at what is in them.
func TestHeapsOfVastValues(t *testing.T) {
	before := vastValues()
	for i, v := range vastValues() {
		h := heapOf(row(1, v, list(v)), free(), named(0, v))
		roots := []impl.Value{v, handle(0), {Kind: impl.KindHandle, Items: v.Items}}
		for n, c := range heapCalls() {
			heaps, values := c.call(h, roots, (i+n)%3, pathOf(0))
			for _, r := range heaps {
				clearHeap(r)
			}
			for _, r := range values {
				clear(r.Items)
			}
		}
		checkIsHeap(t, h, false)
		// What blocks share among them makes no copy endless either.
		many := heapOf(slices.Repeat([]impl.Block{row(1, v)}, 300)...)
		shared, ok := impl.ShareValue(many, impl.NullValue())
		if ok || len(shared.Blocks) != 300 {
			t.Errorf("ShareValue gives %v and %d blocks", ok, len(shared.Blocks))
		}
		checkIdentical(t, shared.Blocks[299].Table.Slots[0].Val, v, true)
		clearHeap(shared)
		checkIdentical(t, v, before[i], true)
	}
}

func clearHeap(h impl.Heap) {
	for _, b := range h.Blocks {
		for _, s := range b.Table.Slots {
			clear(s.Val.Items)
		}
	}
}

// TestLargeHeaps has far more blocks than a value has items.
func TestLargeHeaps(t *testing.T) {
	const count = 20000
	var blocks []impl.Block
	var roots []impl.Value
	for i := range count {
		if i%2 == 0 {
			blocks = append(blocks, row(2, impl.IntValue(i)))
		} else {
			blocks, roots = append(blocks, row(1, handle(i-1))), append(roots, handle(i), handle(i-1))
		}
	}
	h := heapOf(blocks...)
	checkCounted(t, h, roots, true)
	checkCounted(t, h, roots[1:], false)
	checkLoaded(t, h, roots[count-2], list(list(impl.IntValue(count-2))), true)
	want := copiedHeap(h)
	want.Blocks[count-1], want.Blocks[count-2].Count = free(), 1
	checkDropped(t, h, roots, count-2, want, true)
	want = copiedHeap(h)
	want.Blocks[count-2].Count = 1
	want.Blocks[count-1] = row(1, handle(count))
	want.Blocks = append(want.Blocks, row(1, handle(1)))
	want.Blocks[1].Count = 2
	checkSetShared(t, h, roots, count-2, pathOf(0, 0), false, 0, want, handle(count-1), impl.ErrNone)
	wide := block(1, without(packedTable(1024, nullSlots(1024)...), inRange(0, 900)...))
	for i := range blocks {
		blocks[i] = wide
	}
	checkIsHeap(t, heapOf(blocks[:2000]...), true)
}
