package tests

import (
	"fmt"
	"math"
	"math/big"
	"math/rand"
	"reflect"
	"runtime/debug"
	"slices"
	"strconv"
	"strings"
	"testing"

	"loop.example/g03011/impl"
)

// Promise 10: quotients, remainders, sums and unions fit together.

// symbols has the symbol of each operator at its number, as the document counts them.
func symbols() []string {
	return []string{"", "+", "-", "*", "/", "%", ".", "==", "!=", "===", "!==", "<", "<=", ">", ">=", "<=>"}
}

// noOperators has numbers of which none is an operator, not even if only a part of it is looked at.
func noOperators() []int {
	return []int{0, 16, 17, 18, 31, 100, 255, 256, 257, 1<<8 + 4, 1<<16 + 3, -1, -2, -5, -6, -15, -16, -255, 1 << 32, 1<<32 + 1, 1<<32 + 6, 1<<32 + 15, -1 << 32, math.MaxInt, math.MaxInt - 1, math.MinInt, math.MinInt + 1, math.MinInt + 7}
}

// allOperators has every operator and numbers that are none.
func allOperators() []int {
	return append([]int{1, 2, 3, 4, 5, 6, 7, 8, 9, 10, 11, 12, 13, 14, 15}, noOperators()...)
}

// modelArith has no range of its own.
func modelArith(op, a, b int) (int, int) {
	m, n, result := big.NewInt(int64(a)), big.NewInt(int64(b)), new(big.Int)
	isBeyond := func(n *big.Int) bool { return n.CmpAbs(big.NewInt(1000000000)) > 0 }
	switch {
	case op < 1 || op > 5:
		return 0, 2
	case isBeyond(m) || isBeyond(n):
		return 0, 3
	case op >= 4 && b == 0:
		return 0, 4
	case op == 1:
		result.Add(m, n)
	case op == 2:
		result.Sub(m, n)
	case op == 3:
		result.Mul(m, n)
	case op == 4:
		result.Quo(m, n)
	case op == 5:
		result.Rem(m, n)
	}
	if isBeyond(result) {
		return 0, 3
	}
	return int(result.Int64()), 0
}

func modelUnion(a, b impl.Value) (impl.Value, int) {
	if a.Kind != 4 || b.Kind != 4 || !modelIsValue(a) || !modelIsValue(b) {
		return impl.Value{}, 2
	}
	union := array(max(a.Next, b.Next), slices.Clone(a.Items)...)
	for _, e := range b.Items {
		if !slices.ContainsFunc(a.Items, func(other impl.Entry) bool { return other.Key == e.Key }) {
			union.Items = append(union.Items, e)
		}
	}
	if modelWeight(union) > 200 {
		return impl.Value{}, 9
	}
	return union, 0
}

// modelRelations has, for each operator that is a relation, the orders that satisfy it.
func modelRelations() map[int][]int {
	return map[int][]int{7: {equal}, 8: {less, greater, none}, 11: {less}, 12: {less, equal}, 13: {greater}, 14: {greater, equal}}
}

func boolean(b bool) impl.Value {
	if b {
		return number(1, 1)
	}
	return number(1, 0)
}

func modelBinary(op int, a, b impl.Value) (impl.Value, int) {
	x, y := modelConversion(a), modelConversion(b)
	orders, isRelation := modelRelations()[op]
	switch {
	case op == 1 && a.Kind == 4 && b.Kind == 4:
		return modelUnion(a, b)
	case op == 6 && (x.textErr != 0 || y.textErr != 0):
		return impl.Value{}, 1
	case op == 6 && len(x.text)+len(y.text) > 400:
		return impl.Value{}, 9
	case op == 6:
		return impl.Value{Kind: 3, Str: x.text + y.text}, 0
	case op == 9:
		return boolean(modelIdentical(a, b)), 0
	case op == 10:
		return boolean(!modelIdentical(a, b)), 0
	case isRelation:
		return boolean(slices.Contains(orders, modelCompare(a, b))), 0
	case op == 15:
		return number(2, modelCompare(a, b)), 0
	case x.numericErr != 0 || y.numericErr != 0:
		return impl.Value{}, 2
	}
	n, code := modelArith(op, x.numeric, y.numeric)
	if code != 0 {
		return impl.Value{}, code
	}
	return number(2, n), 0
}

func modelUnary(op int, a impl.Value) (impl.Value, int) {
	switch op {
	case 1:
		return boolean(!modelConversion(a).isTrue), 0
	case 2:
		return modelBinary(2, number(2, 0), a)
	}
	return impl.Value{}, 2
}

func checkArith(t *testing.T, op, a, b, want, code int) {
	t.Helper()
	if got, gotCode := impl.Arith(op, a, b); got != want || gotCode != code {
		t.Errorf("Arith(%d, %d, %d) = %d, %d; want %d, %d", op, a, b, got, gotCode, want, code)
	}
}

func checkArithAsModel(t *testing.T, op, a, b int) {
	t.Helper()
	want, code := modelArith(op, a, b)
	checkArith(t, op, a, b, want, code)
}

// checkGiven checks a value and its code. Together with an error, the value is null.
func checkGiven(t *testing.T, got impl.Value, gotCode int, want impl.Value, code int, what string, of ...impl.Value) {
	t.Helper()
	if code != impl.ErrNone {
		want = impl.Value{}
	}
	if !isSame(got, want) || gotCode != code {
		t.Errorf("%s of %s = %s, %d; want %s, %d", what, briefList(of), brief(got), gotCode, brief(want), code)
	}
}

func checkUnion(t *testing.T, a, b, want impl.Value, code int) {
	t.Helper()
	got, gotCode := impl.Union(a, b)
	checkGiven(t, got, gotCode, want, code, "Union", a, b)
	if a.Kind == impl.KindArray && b.Kind == impl.KindArray {
		checkBinary(t, impl.OpAdd, a, b, want, code)
	}
}

func checkUnionAsModel(t *testing.T, a, b impl.Value) {
	t.Helper()
	want, code := modelUnion(a, b)
	checkUnion(t, a, b, want, code)
}

func checkRelation(t *testing.T, op, order int, want bool) {
	t.Helper()
	if got := impl.Relation(op, order); got != want {
		t.Errorf("Relation(%d, %d) = %v; want %v", op, order, got, want)
	}
}

func checkBinary(t *testing.T, op int, a, b, want impl.Value, code int) {
	t.Helper()
	got, gotCode := impl.BinaryOp(op, a, b)
	checkGiven(t, got, gotCode, want, code, "BinaryOp "+strconv.Itoa(op), a, b)
}

func checkBinaryAsModel(t *testing.T, op int, a, b impl.Value) {
	t.Helper()
	want, code := modelBinary(op, a, b)
	checkBinary(t, op, a, b, want, code)
}

func checkUnary(t *testing.T, op int, a, want impl.Value, code int) {
	t.Helper()
	got, gotCode := impl.UnaryOp(op, a)
	checkGiven(t, got, gotCode, want, code, "UnaryOp "+strconv.Itoa(op), a)
}

func TestOperatorConstants(t *testing.T) {
	for i, op := range []int{
		impl.OpAdd, impl.OpSub, impl.OpMul, impl.OpDiv, impl.OpMod, impl.OpConcat, impl.OpEq, impl.OpNe, impl.OpSame,
		impl.OpNotSame, impl.OpLt, impl.OpLe, impl.OpGt, impl.OpGe, impl.OpOrder,
	} {
		if op != i+1 {
			t.Errorf("the operator %d is %d", i+1, op)
		}
	}
	if impl.UnNot != 1 || impl.UnNeg != 2 {
		t.Error(impl.UnNot, impl.UnNeg)
	}
}

func TestSymbolsOfOperators(t *testing.T) {
	for op, symbol := range symbols() {
		if got := impl.OpSymbol(op); got != symbol {
			t.Errorf("OpSymbol(%d) = %q; want %q", op, got, symbol)
		}
		if got := impl.OpOf(symbol); got != op {
			t.Errorf("OpOf(%q) = %d; want %d", symbol, got, op)
		}
	}
	for _, op := range noOperators() {
		if got := impl.OpSymbol(op); got != "" {
			t.Errorf("OpSymbol(%d) = %q; want the empty text", op, got)
		}
	}
	for op := -300; op <= 300; op++ {
		symbol := impl.OpSymbol(op)
		if isOperator := 1 <= op && op <= 15; isOperator != (symbol != "") || isOperator && impl.OpOf(symbol) != op {
			t.Errorf("OpSymbol(%d) = %q, and its OpOf is %d", op, symbol, impl.OpOf(symbol))
		}
	}
}

// checkOpOf looks for s among the symbols.
func checkOpOf(t *testing.T, s string) {
	t.Helper()
	want := max(slices.Index(symbols(), s), 0)
	if got := impl.OpOf(s); got != want {
		t.Errorf("OpOf(%s) = %d; want %d", cut(s), got, want)
	}
	if want != 0 && impl.OpSymbol(want) != s {
		t.Errorf("OpSymbol(%d) = %q; want %q", want, impl.OpSymbol(want), s)
	}
}

func TestTextsThatAreNoSymbols(t *testing.T) {
	for _, s := range []string{
		"=", "!", "++", "--", "**", "//", "%%", "..", "...", "====", "!===", "=!", "=!=", "<>", "=<", "=>", "><", "<<", ">>", "<<=", ">>=", ">=<", "<=>=", "<==", "+=", "-=", ".=", "&&", "||", "??", "^",
		"add", "OpAdd", "1", "0", "\x00", "\uff0b", "\u2212", "\u00d7", "\u2260", "\u2264", "a", "\xff",
	} {
		if got := impl.OpOf(s); got != 0 {
			t.Errorf("OpOf(%q) = %d; want 0", s, got)
		}
	}
	// A symbol with something behind it or ahead of it is none, or another one.
	for _, symbol := range symbols() {
		for c := range 256 {
			checkOpOf(t, symbol+string([]byte{byte(c)}))
			checkOpOf(t, string([]byte{byte(c)})+symbol)
		}
		for _, other := range append(symbols(), "  ", "and more", strings.Repeat("=", 1000)) {
			checkOpOf(t, symbol+other)
			checkOpOf(t, other+symbol)
		}
	}
}

// TestShortTextsOfSymbols goes through every text of up to four bytes of those that symbols have: fifteen of them are symbols.
func TestShortTextsOfSymbols(t *testing.T) {
	texts := []string{""}
	found := 0
	for range 5 {
		var longer []string
		for _, s := range texts {
			checkOpOf(t, s)
			if impl.OpOf(s) != 0 {
				found++
			}
			for _, c := range "+-*/%.=!<> " {
				longer = append(longer, s+string(c))
			}
		}
		texts = longer
	}
	if found != 15 {
		t.Errorf("%d texts are symbols", found)
	}
}

func TestArithOfEveryOperator(t *testing.T) {
	const most = impl.MaxInt
	for _, c := range []struct {
		op, a, b, want int
	}{
		{impl.OpAdd, 2, 3, 5}, {impl.OpAdd, -2, 3, 1}, {impl.OpAdd, 0, 0, 0}, {impl.OpAdd, 1, -1, 0}, {impl.OpAdd, most, 0, most}, {impl.OpAdd, most, -most, 0}, {impl.OpAdd, most - 1, 1, most}, {impl.OpAdd, 1 - most, -1, -most}, {impl.OpAdd, 500000000, 500000000, most},
		{impl.OpSub, 2, 3, -1}, {impl.OpSub, 3, 2, 1}, {impl.OpSub, 0, 5, -5}, {impl.OpSub, -1, -1, 0}, {impl.OpSub, 0, most, -most}, {impl.OpSub, 0, -most, most}, {impl.OpSub, most, most, 0}, {impl.OpSub, most - 1, -1, most}, {impl.OpSub, -500000000, 500000000, -most},
		{impl.OpMul, 2, 3, 6}, {impl.OpMul, -2, 3, -6}, {impl.OpMul, -2, -3, 6}, {impl.OpMul, 0, most, 0}, {impl.OpMul, -most, 0, 0}, {impl.OpMul, most, 1, most}, {impl.OpMul, most, -1, -most}, {impl.OpMul, -most, -1, most}, {impl.OpMul, 31622, 31622, 999950884}, {impl.OpMul, 100000, 10000, most}, {impl.OpMul, -500000000, 2, -most}, {impl.OpMul, 333333333, 3, 999999999},
		// Toward zero, whatever the signs are.
		{impl.OpDiv, 6, 3, 2}, {impl.OpDiv, 7, 2, 3}, {impl.OpDiv, -7, 2, -3}, {impl.OpDiv, 7, -2, -3}, {impl.OpDiv, -7, -2, 3}, {impl.OpDiv, 1, 2, 0}, {impl.OpDiv, -1, 2, 0}, {impl.OpDiv, 1, -2, 0}, {impl.OpDiv, -1, -2, 0}, {impl.OpDiv, 0, -5, 0}, {impl.OpDiv, most, 1, most}, {impl.OpDiv, most, -1, -most}, {impl.OpDiv, -most, -1, most}, {impl.OpDiv, most, most, 1}, {impl.OpDiv, most, -most, -1}, {impl.OpDiv, most - 1, most, 0}, {impl.OpDiv, 1 - most, most, 0}, {impl.OpDiv, most, 3, 333333333}, {impl.OpDiv, -most, 3, -333333333},
		// The sign is that of the dividend.
		{impl.OpMod, 6, 3, 0}, {impl.OpMod, 7, 2, 1}, {impl.OpMod, -7, 2, -1}, {impl.OpMod, 7, -2, 1}, {impl.OpMod, -7, -2, -1}, {impl.OpMod, 1, 2, 1}, {impl.OpMod, -1, 2, -1}, {impl.OpMod, 1, -2, 1}, {impl.OpMod, -1, -2, -1}, {impl.OpMod, 0, -5, 0}, {impl.OpMod, -6, 3, 0}, {impl.OpMod, most, 1, 0}, {impl.OpMod, -most, -1, 0}, {impl.OpMod, most, most, 0}, {impl.OpMod, most - 1, most, most - 1}, {impl.OpMod, 1 - most, most, 1 - most}, {impl.OpMod, 1 - most, -most, 1 - most}, {impl.OpMod, most, 7, 6}, {impl.OpMod, -most, 7, -6}, {impl.OpMod, most, -7, 6},
	} {
		checkArith(t, c.op, c.a, c.b, c.want, impl.ErrNone)
		checkArithAsModel(t, c.op, c.a, c.b)
	}
}

func TestArithThatLeavesTheRange(t *testing.T) {
	const most = impl.MaxInt
	for _, c := range [][3]int{
		{impl.OpAdd, most, 1}, {impl.OpAdd, 1, most}, {impl.OpAdd, -most, -1}, {impl.OpAdd, most, most}, {impl.OpAdd, -most, -most}, {impl.OpAdd, 500000000, 500000001}, {impl.OpAdd, -500000001, -500000000},
		{impl.OpSub, most, -1}, {impl.OpSub, -most, 1}, {impl.OpSub, -1, most}, {impl.OpSub, 1, -most}, {impl.OpSub, most, -most}, {impl.OpSub, -most, most}, {impl.OpSub, 500000000, -500000001},
		{impl.OpMul, most, 2}, {impl.OpMul, -most, 2}, {impl.OpMul, most, -2}, {impl.OpMul, most, most}, {impl.OpMul, -most, most}, {impl.OpMul, -most, -most}, {impl.OpMul, 31623, 31623}, {impl.OpMul, 500000001, 2}, {impl.OpMul, -500000001, 2}, {impl.OpMul, 65536, 65536}, {impl.OpMul, 1 << 29, 8}, {impl.OpMul, 858993460, 5}, {impl.OpMul, 715827883, 6}, {impl.OpMul, 1 << 29, -1 << 29}, {impl.OpMul, 333333334, 3},
	} {
		checkArith(t, c[0], c[1], c[2], 0, impl.ErrOverflow)
		checkArithAsModel(t, c[0], c[1], c[2])
	}
}

// TestArithOfIntegersThatAreNone has operands beyond the range, although their result may be within it, or wrap around to it.
func TestArithOfIntegersThatAreNone(t *testing.T) {
	const most = impl.MaxInt
	for _, beyond := range []int{most + 1, -most - 1, most + 2, 2 * most, -2 * most, impl.MaxValue, 1 << 31, 1 << 32, 1<<32 + 1, -1 << 32, 1 << 62, 1 << 40, 3037000500, math.MaxInt, math.MaxInt - 1, math.MinInt, math.MinInt + 1} {
		for op := 1; op <= 5; op++ {
			for _, n := range []int{0, 1, -1, 2, -2, 4, 5, most, -most, beyond, -beyond, 1 - beyond, most - beyond, 1 << 32, math.MaxInt, math.MinInt} {
				checkArith(t, op, beyond, n, 0, impl.ErrOverflow)
				checkArith(t, op, n, beyond, 0, impl.ErrOverflow)
			}
		}
	}
	// They would be 0, 1 and 0 if nothing but the result counted.
	checkArith(t, impl.OpMul, 1<<32, 1<<32, 0, impl.ErrOverflow)
	checkArith(t, impl.OpAdd, math.MinInt, math.MinInt, 0, impl.ErrOverflow)
	checkArith(t, impl.OpDiv, math.MinInt, -1, 0, impl.ErrOverflow)
	checkArith(t, impl.OpMod, math.MinInt, -1, 0, impl.ErrOverflow)
	checkArith(t, impl.OpSub, math.MaxInt, math.MaxInt-1, 0, impl.ErrOverflow)
	checkArith(t, impl.OpMod, most+1, 7, 0, impl.ErrOverflow)
	checkArith(t, impl.OpMod, 7, most+1, 0, impl.ErrOverflow)
	checkArith(t, impl.OpDiv, most+1, 2, 0, impl.ErrOverflow)
}

func TestDivisionByZero(t *testing.T) {
	for _, a := range []int{0, 1, -1, 2, 7, -7, impl.MaxInt, -impl.MaxInt} {
		checkArith(t, impl.OpDiv, a, 0, 0, impl.ErrZero)
		checkArith(t, impl.OpMod, a, 0, 0, impl.ErrZero)
		checkArith(t, impl.OpAdd, a, 0, a, impl.ErrNone)
		checkArith(t, impl.OpSub, a, 0, a, impl.ErrNone)
		checkArith(t, impl.OpMul, a, 0, 0, impl.ErrNone)
	}
}

// TestTheFirstErrorOfArithCounts has arguments to which several errors apply.
func TestTheFirstErrorOfArithCounts(t *testing.T) {
	const most = impl.MaxInt
	for op := 6; op <= 15; op++ {
		checkArith(t, op, 1, 1, 0, impl.ErrNumber)
		checkArith(t, op, most+1, 0, 0, impl.ErrNumber)
	}
	for _, op := range noOperators() {
		for _, n := range [][2]int{{0, 0}, {1, 1}, {1, 0}, {most, most}, {most + 1, 1}, {1, -most - 1}, {most + 1, 0}, {math.MinInt, math.MaxInt}} {
			checkArith(t, op, n[0], n[1], 0, impl.ErrNumber)
		}
	}
	for _, beyond := range []int{most + 1, -most - 1, math.MaxInt, math.MinInt} {
		checkArith(t, impl.OpDiv, beyond, 0, 0, impl.ErrOverflow)
		checkArith(t, impl.OpMod, beyond, 0, 0, impl.ErrOverflow)
	}
}

// edgeNumbers has numbers at which results leave a range, on either side.
func edgeNumbers() []int {
	var l []int
	for _, n := range []int{0, 1, 2, 3, 7, 10, 100, 255, 256, 31621, 31622, 31623, 46340, 46341, 65535, 65536, 333333333, 333333334, 499999999, 500000000, 500000001, 999999998, 999999999, 1000000000, 1000000001, 1000000002, 1 << 31, 1<<31 - 1, 1 << 32, 1<<32 + 1, 3037000499, 3037000500, 1000000000000, 1 << 62, math.MaxInt - 1, math.MaxInt} {
		l = append(l, n, -n)
	}
	return append(l, math.MinInt, math.MinInt+1)
}

func TestArithOfEdgeNumbers(t *testing.T) {
	for _, a := range edgeNumbers() {
		for _, b := range edgeNumbers() {
			for _, op := range allOperators() {
				checkArithAsModel(t, op, a, b)
			}
		}
		if t.Failed() {
			return
		}
	}
}

// checkDivided is the promise for a dividend and a divisor that is not 0: quotient and remainder give the dividend back.
func checkDivided(t *testing.T, a, b int) {
	t.Helper()
	q, qCode := impl.Arith(impl.OpDiv, a, b)
	r, rCode := impl.Arith(impl.OpMod, a, b)
	product, pCode := impl.Arith(impl.OpMul, q, b)
	sum, sCode := impl.Arith(impl.OpAdd, product, r)
	if qCode != 0 || rCode != 0 || pCode != 0 || sCode != 0 || sum != a {
		t.Fatalf("the quotient of %d and %d is %d, %d and the remainder %d, %d; together they are %d", a, b, q, qCode, r, rCode, sum)
	}
	isShort := max(r, -r) < max(b, -b)
	if !isShort || r != 0 && (r < 0) != (a < 0) {
		t.Fatalf("the remainder of %d and %d is %d", a, b, r)
	}
	if max(product, -product) > max(a, -a) {
		t.Fatalf("the quotient of %d and %d is %d, which is not truncated toward zero", a, b, q)
	}
}

// checkUndone is the promise for two integers: sums are undone by subtraction, and differences by addition.
func checkUndone(t *testing.T, a, b int) {
	t.Helper()
	for _, c := range []struct{ op, back, exact int }{{impl.OpAdd, impl.OpSub, a + b}, {impl.OpSub, impl.OpAdd, a - b}} {
		result, code := impl.Arith(c.op, a, b)
		if isWithin := max(c.exact, -c.exact) <= impl.MaxInt; !isWithin {
			checkArith(t, c.op, a, b, 0, impl.ErrOverflow)
			continue
		}
		if result != c.exact || code != impl.ErrNone {
			t.Fatalf("Arith(%d, %d, %d) = %d, %d", c.op, a, b, result, code)
		}
		checkArith(t, c.back, result, b, a, impl.ErrNone)
	}
	sum, code := impl.Arith(impl.OpAdd, a, b)
	checkArith(t, impl.OpAdd, b, a, sum, code)
	if code == impl.ErrNone {
		checkArith(t, impl.OpSub, sum, a, b, impl.ErrNone)
	}
}

// checkFits checks the promise for two integers of a script.
func checkFits(t *testing.T, a, b int) {
	t.Helper()
	checkUndone(t, a, b)
	if b != 0 {
		checkDivided(t, a, b)
	}
	product, code := impl.Arith(impl.OpMul, a, b)
	checkArith(t, impl.OpMul, b, a, product, code)
	if code == impl.ErrNone && b != 0 {
		checkArith(t, impl.OpDiv, product, b, a, impl.ErrNone)
		checkArith(t, impl.OpMod, product, b, 0, impl.ErrNone)
	}
}

func TestArithFitsTogether(t *testing.T) {
	for a := -150; a <= 150; a++ {
		for b := -150; b <= 150; b++ {
			checkFits(t, a, b)
			for op := 1; op <= 5; op++ {
				checkArithAsModel(t, op, a, b)
			}
		}
		if t.Failed() {
			return
		}
	}
	for _, a := range edgeNumbers() {
		for _, b := range edgeNumbers() {
			if impl.InRange(a, -impl.MaxInt, impl.MaxInt) && impl.InRange(b, -impl.MaxInt, impl.MaxInt) {
				checkFits(t, a, b)
			}
		}
	}
}

func TestRandomArithFitsTogether(t *testing.T) {
	random := rand.New(rand.NewSource(10))
	for range 300000 {
		a := random.Intn(2*impl.MaxInt+1) - impl.MaxInt
		b := (random.Intn(2*impl.MaxInt+1) - impl.MaxInt) >> random.Intn(31)
		checkFits(t, a, b)
		checkFits(t, b, a)
		for op := 1; op <= 5; op++ {
			checkArithAsModel(t, op, a, b)
		}
		if t.Failed() {
			return
		}
	}
}

func TestUnionOfArrays(t *testing.T) {
	at := func(k impl.Key, n int) impl.Entry { return entry(k, impl.IntValue(n)) }
	a, b, c := strKey("a"), strKey("b"), strKey("c")
	empty, none := impl.ArrayValue(), impl.ErrNone
	// No key is shared.
	checkUnion(t, array(0, at(a, 1)), array(0, at(b, 2)), array(0, at(a, 1), at(b, 2)), none)
	checkUnion(t, array(0, at(b, 2)), array(0, at(a, 1)), array(0, at(b, 2), at(a, 1)), none)
	checkUnion(t, array(0, at(a, 1)), list(intValues(7, 8)...), array(2, at(a, 1), at(intKey(0), 7), at(intKey(1), 8)), none)
	checkUnion(t, array(3, at(intKey(2), 1)), array(0, at(intKey(-5), 2), at(strKey(""), 3)), array(3, at(intKey(2), 1), at(intKey(-5), 2), at(strKey(""), 3)), none)
	// Some keys are shared: the items of the first array count, and stay where they are.
	checkUnion(t, list(intValues(1)...), list(intValues(8, 9)...), list(intValues(1, 9)...), none)
	checkUnion(t, list(intValues(8, 9)...), list(intValues(1)...), list(intValues(8, 9)...), none)
	checkUnion(t, array(0, at(b, 1), at(c, 2)), array(0, at(a, 3), at(b, 4), at(c, 5)), array(0, at(b, 1), at(c, 2), at(a, 3)), none)
	checkUnion(t, array(0, at(c, 1)), array(0, at(b, 2), at(c, 3), at(a, 4)), array(0, at(c, 1), at(b, 2), at(a, 4)), none)
	// All keys are shared.
	checkUnion(t, array(0, at(a, 1), at(b, 2)), array(0, at(b, 3), at(a, 4)), array(0, at(a, 1), at(b, 2)), none)
	checkUnion(t, list(impl.NullValue()), list(impl.IntValue(5)), list(impl.NullValue()), none)
	// Arrays in them are not united.
	checkUnion(t, list(list(impl.IntValue(1))), list(list(intValues(2, 3)...), impl.TextValue("x")), list(list(impl.IntValue(1)), impl.TextValue("x")), none)
	// Empty arrays.
	checkUnion(t, empty, empty, empty, none)
	checkUnion(t, empty, array(2, at(b, 2), at(intKey(1), 1)), array(2, at(b, 2), at(intKey(1), 1)), none)
	checkUnion(t, array(2, at(b, 2), at(intKey(1), 1)), empty, array(2, at(b, 2), at(intKey(1), 1)), none)
	checkUnion(t, impl.Value{Kind: 4, Items: []impl.Entry{}}, empty, empty, none)
}

func TestNextOfUnions(t *testing.T) {
	at := func(k impl.Key) impl.Entry { return entry(k, impl.NullValue()) }
	const most = impl.MaxInt
	for _, next := range [][2]int{{0, 0}, {0, 5}, {5, 0}, {5, 5}, {4, 5}, {5, 4}, {most, most + 1}, {most + 1, 3}, {0, most + 1}, {most + 1, most + 1}} {
		greater := max(next[0], next[1])
		checkUnion(t, array(next[0]), array(next[1]), array(greater), impl.ErrNone)
		checkUnion(t, array(next[0], at(strKey("a"))), array(next[1], at(strKey("b"))), array(greater, at(strKey("a")), at(strKey("b"))), impl.ErrNone)
		checkUnion(t, array(next[0], at(intKey(-1))), array(next[1], at(intKey(-1))), array(greater, at(intKey(-1))), impl.ErrNone)
	}
	// It counts even where no item comes from that array, and where it is beyond all keys.
	checkUnion(t, list(nulls(2)...), array(9, at(intKey(0))), array(9, list(nulls(2)...).Items...), impl.ErrNone)
	checkUnion(t, array(9, at(intKey(0))), list(nulls(2)...), array(9, list(nulls(2)...).Items...), impl.ErrNone)
	checkUnion(t, list(nulls(1)...), array(most+1, at(intKey(most)), at(intKey(-most))), array(most+1, at(intKey(0)), at(intKey(most)), at(intKey(-most))), impl.ErrNone)
}

// TestUnionsCompareKeysAsAWhole has texts that look like numbers, but are keys.
func TestUnionsCompareKeysAsAWhole(t *testing.T) {
	keys := []impl.Key{intKey(0), intKey(1), intKey(5), intKey(-5), strKey(""), strKey("a"), strKey("A"), strKey("05"), strKey("-0"), strKey("5 "), strKey("a\x00"), strKey("\xff"), strKey("1000000001"), strKey(strings.Repeat("a", 400)), strKey(strings.Repeat("a", 399))}
	for i, k := range keys {
		for j, l := range keys {
			first, second := entry(k, impl.IntValue(1)), entry(l, impl.IntValue(2))
			want := array(6, first, second)
			if i == j {
				want = array(6, first)
			}
			checkUnion(t, array(6, first), array(6, second), want, impl.ErrNone)
		}
	}
}

func TestUnionsOfValuesThatAreNoArrays(t *testing.T) {
	good := list(impl.IntValue(1))
	values := slices.Concat(scalars(), unlikeKinds())
	for _, v := range otherValues() {
		if v.Kind != impl.KindArray {
			values = append(values, v)
		}
	}
	for _, v := range values {
		checkUnion(t, v, good, impl.NullValue(), impl.ErrNumber)
		checkUnion(t, good, v, impl.NullValue(), impl.ErrNumber)
		checkUnion(t, v, v, impl.NullValue(), impl.ErrNumber)
		checkUnion(t, v, impl.ArrayValue(), impl.NullValue(), impl.ErrNumber)
	}
}

// badArrays has arrays that are not valid, each for another reason.
func badArrays() []impl.Value {
	null := impl.NullValue()
	return []impl.Value{
		array(-1), array(impl.MaxInt + 2), array(math.MaxInt), array(math.MinInt), {Kind: 4, Num: 1}, {Kind: 4, Num: -1}, {Kind: 4, Str: "x"},
		array(0, entry(intKey(0), null)), array(5, entry(intKey(5), null)), array(5, entry(intKey(6), null)),
		array(0, entry(strKey("5"), null)), array(9, entry(strKey("5"), null)), array(0, entry(strKey(strings.Repeat("k", 401)), null)),
		array(9, entry(impl.Key{Num: 5, Str: "5"}, null)), array(9, entry(impl.Key{Text: true, Num: 5, Str: "a"}, null)), array(9, entry(intKey(-impl.MaxInt-1), null)),
		array(0, entry(strKey("a"), null), entry(strKey("a"), null)), array(3, entry(intKey(2), null), entry(strKey("b"), null), entry(intKey(2), null)),
		list(nulls(200)...), nested(200, null), doubled(7, null), list(append(nulls(190), list(nulls(9)...))...),
		list(impl.IntValue(impl.MaxInt + 1)), list(impl.TextValue(strings.Repeat("t", 401))), list(number(impl.KindBool, 2)), list(number(impl.KindNull, 1)), list(number(impl.KindHandle, 0)), list(number(impl.KindObject, 256)), list(number(9, 0)), list(number(-1, 0)),
		list(null, impl.Value{Kind: 2, Str: "1"}), list(null, impl.Value{Kind: 3, Num: 1}), list(null, impl.Value{Kind: 2, Next: 1}), list(null, impl.Value{Kind: 0, Items: list(null).Items}),
		list(null, list(null, array(-1))), list(null, list(array(0, entry(intKey(0), null)))),
	}
}

func TestUnionsOfArraysThatAreNotValid(t *testing.T) {
	goods := []impl.Value{impl.ArrayValue(), list(impl.IntValue(1)), list(nulls(199)...), array(impl.MaxInt + 1), array(9, entry(strKey("a"), impl.IntValue(1)), entry(intKey(5), impl.IntValue(1)))}
	for i, bad := range badArrays() {
		checkValid(t, bad, false)
		for _, good := range goods {
			checkValid(t, good, true)
			checkUnion(t, bad, good, impl.NullValue(), impl.ErrNumber)
			checkUnion(t, good, bad, impl.NullValue(), impl.ErrNumber)
		}
		for _, other := range badArrays()[:i+1] {
			checkUnion(t, bad, other, impl.NullValue(), impl.ErrNumber)
			checkUnion(t, other, bad, impl.NullValue(), impl.ErrNumber)
		}
	}
	// Items that the union would leave out are looked at too.
	checkUnion(t, list(impl.IntValue(1)), list(impl.IntValue(impl.MaxInt+1)), impl.NullValue(), impl.ErrNumber)
	checkUnion(t, list(nulls(199)...), list(nulls(200)...), impl.NullValue(), impl.ErrNumber)
}

// texted is an array of as many nulls, with the keys "k" and a number from the first one on.
func texted(first, count int) impl.Value {
	v := array(0)
	for i := range count {
		v.Items = append(v.Items, entry(strKey(fmt.Sprintf("k%d", first+i)), impl.NullValue()))
	}
	return v
}

// TestWeightOfUnions has unions that weigh just as much as a value may weigh, and 1 more.
func TestWeightOfUnions(t *testing.T) {
	for _, c := range []struct {
		a, b impl.Value
		code int
	}{
		{list(nulls(199)...), impl.ArrayValue(), impl.ErrNone},
		{impl.ArrayValue(), list(nulls(199)...), impl.ErrNone},
		{list(nulls(198)...), texted(0, 1), impl.ErrNone},
		{list(nulls(199)...), texted(0, 1), impl.ErrMemory},
		{texted(0, 1), list(nulls(198)...), impl.ErrNone},
		{texted(0, 1), list(nulls(199)...), impl.ErrMemory},
		{texted(0, 100), texted(100, 99), impl.ErrNone},
		{texted(0, 100), texted(100, 100), impl.ErrMemory},
		{texted(0, 199), texted(199, 199), impl.ErrMemory},
		// Items with a key of the first array have no weight in the union.
		{list(nulls(199)...), list(nulls(199)...), impl.ErrNone},
		{list(nulls(199)...), list(nested(150, impl.NullValue())), impl.ErrNone},
		{texted(0, 150), texted(50, 149), impl.ErrNone},
		{texted(0, 150), texted(50, 150), impl.ErrMemory},
		// Arrays in them weigh as much as what is in them.
		{list(nested(100, impl.NullValue())), array(0, entry(strKey("a"), nested(97, impl.NullValue()))), impl.ErrNone},
		{list(nested(100, impl.NullValue())), array(0, entry(strKey("a"), nested(98, impl.NullValue()))), impl.ErrMemory},
		{list(nested(197, impl.NullValue())), texted(0, 1), impl.ErrNone},
		{list(nested(198, impl.NullValue())), texted(0, 1), impl.ErrMemory},
		{list(nested(198, impl.NullValue())), list(nested(198, impl.IntValue(1))), impl.ErrNone},
		{list(doubled(6, impl.NullValue())), array(0, entry(strKey("a"), doubled(5, impl.NullValue()))), impl.ErrNone},
		{list(doubled(6, impl.NullValue())), array(0, entry(strKey("a"), doubled(6, impl.NullValue()))), impl.ErrMemory},
		{list(impl.TextValue(strings.Repeat("a", 400)), impl.TextValue(strings.Repeat("b", 400))), texted(0, 197), impl.ErrNone},
		{list(impl.TextValue(strings.Repeat("a", 400)), impl.TextValue(strings.Repeat("b", 400))), texted(0, 198), impl.ErrMemory},
	} {
		want, code := modelUnion(c.a, c.b)
		if code != c.code {
			t.Errorf("the model gives %d for %s and %s", code, brief(c.a), brief(c.b))
		}
		checkUnion(t, c.a, c.b, want, c.code)
	}
	for count := range 200 {
		checkUnionAsModel(t, texted(0, count), texted(count, 199-count))
		checkUnionAsModel(t, texted(0, count), texted(count, 200-count))
		checkUnionAsModel(t, texted(0, count), texted(count/2, 199-count))
	}
}

// TestUnionsOfEveryPair has arrays, valid or not, and values that are none.
func TestUnionsOfEveryPair(t *testing.T) {
	values := slices.Concat(someArrays(), smallValues(), badArrays()[:18])
	seen := map[int]int{}
	for _, a := range values {
		for _, b := range values {
			want, code := modelUnion(a, b)
			seen[code]++
			checkUnion(t, a, b, want, code)
		}
		if t.Failed() {
			return
		}
	}
	if seen[impl.ErrNone] < 1000 || seen[impl.ErrNumber] < 1000 {
		t.Errorf("the codes are %v", seen)
	}
}

// randomArray has keys out of few, so that two arrays share some, and values that are arrays too.
func randomArray(random *rand.Rand, most int) impl.Value {
	v := impl.ArrayValue()
	for range random.Intn(most + 1) {
		k := intKey(random.Intn(most) - 3)
		if random.Intn(3) == 0 {
			k = strKey("k" + strconv.Itoa(random.Intn(most)))
		}
		x := impl.IntValue(random.Intn(1000))
		switch random.Intn(6) {
		case 0:
			x = impl.TextValue("t" + strconv.Itoa(random.Intn(9)))
		case 1:
			x = list(x, list(x))
		}
		v = modelSet(v, k, x)
	}
	v.Next += random.Intn(3)
	return v
}

// checkUnited is the promise for two valid arrays whose union is not too heavy: the left one keeps its items, and the right one gives those that are missing.
func checkUnited(t *testing.T, a, b, union impl.Value) {
	t.Helper()
	checkFree(t, union)
	if len(union.Items) < len(a.Items) || union.Next != max(a.Next, b.Next) {
		t.Fatalf("the union of %s and %s is %s", brief(a), brief(b), brief(union))
	}
	for i, e := range a.Items {
		if union.Items[i].Key != e.Key || !isSame(union.Items[i].Val, e.Val) {
			t.Fatalf("the union of %s and %s has lost the item %s", brief(a), brief(b), briefKey(e.Key))
		}
	}
	added := union.Items[len(a.Items):]
	for _, e := range b.Items {
		got, isThere := impl.GetKey(union, e.Key)
		want, isLeft := impl.GetKey(a, e.Key)
		if !isLeft {
			want = e.Val
			if len(added) == 0 || added[0].Key != e.Key {
				t.Fatalf("the union of %s and %s has another order", brief(a), brief(b))
			}
			added = added[1:]
		}
		if !isThere || !isSame(got, want) {
			t.Fatalf("the union of %s and %s has %s at %s", brief(a), brief(b), brief(got), briefKey(e.Key))
		}
	}
	if len(added) != 0 {
		t.Fatalf("the union of %s and %s has %d items that are in neither", brief(a), brief(b), len(added))
	}
}

func TestUnionsFitTogether(t *testing.T) {
	random := rand.New(rand.NewSource(1010))
	united := 0
	for range 6000 {
		most := 1 + random.Intn(60)
		a, b, c := randomArray(random, most), randomArray(random, most), randomArray(random, most)
		checkUnionAsModel(t, a, b)
		union, code := impl.Union(a, b)
		if code != impl.ErrNone {
			continue
		}
		united++
		checkUnited(t, a, b, union)
		checkUnion(t, union, a, union, impl.ErrNone)
		checkUnion(t, union, b, union, impl.ErrNone)
		checkUnion(t, a, union, union, impl.ErrNone)
		// It does not count in which order three are united.
		right, code := impl.Union(b, c)
		if code == impl.ErrNone {
			all, code := impl.Union(a, right)
			checkUnion(t, union, c, all, code)
		}
	}
	if united < 1000 {
		t.Errorf("%d unions are not too heavy", united)
	}
}

// TestUnionsAreMadeAsSetKeyDoesIt adds the items one by one.
func TestUnionsAreMadeAsSetKeyDoesIt(t *testing.T) {
	random := rand.New(rand.NewSource(11))
	for range 500 {
		a, b := randomArray(random, 12), randomArray(random, 12)
		want := a
		for _, e := range b.Items {
			if impl.FindKey(want, e.Key) < 0 {
				want, _ = impl.SetKey(want, e.Key, e.Val)
			}
		}
		want.Next = max(want.Next, b.Next)
		checkUnion(t, a, b, want, impl.ErrNone)
	}
}

func TestRelations(t *testing.T) {
	for _, c := range []struct {
		op                                int
		isLess, isEqual, isGreater, other bool
	}{
		{impl.OpEq, false, true, false, false},
		{impl.OpNe, true, false, true, true},
		{impl.OpLt, true, false, false, false},
		{impl.OpLe, true, true, false, false},
		{impl.OpGt, false, false, true, false},
		{impl.OpGe, false, true, true, false},
	} {
		checkRelation(t, c.op, impl.OrderLess, c.isLess)
		checkRelation(t, c.op, impl.OrderEqual, c.isEqual)
		checkRelation(t, c.op, impl.OrderGreater, c.isGreater)
		for _, order := range []int{impl.OrderNone, 3, 4, -2, -3, 100, -100, 255, 256, 257, -255, -256, 1 << 32, 1<<32 + 1, 1<<32 - 1, -1 << 32, math.MaxInt, math.MinInt} {
			checkRelation(t, c.op, order, c.other)
		}
	}
}

func TestOperatorsThatAreNoRelations(t *testing.T) {
	ops := append(noOperators(), impl.OpAdd, impl.OpSub, impl.OpMul, impl.OpDiv, impl.OpMod, impl.OpConcat, impl.OpSame, impl.OpNotSame, impl.OpOrder)
	for _, op := range ops {
		for _, order := range []int{-1, 0, 1, 2, 3, -2, op, math.MaxInt, math.MinInt} {
			checkRelation(t, op, order, false)
		}
	}
}

// TestRelationsAreOpposite has the promise for relations. What cannot be compared is neither less nor greater, so that there only two are opposite.
func TestRelationsAreOpposite(t *testing.T) {
	for order := -1000; order <= 1000; order++ {
		checkRelation(t, impl.OpNe, order, !impl.Relation(impl.OpEq, order))
	}
	for _, order := range []int{less, equal, greater} {
		checkRelation(t, impl.OpGe, order, !impl.Relation(impl.OpLt, order))
		checkRelation(t, impl.OpGt, order, !impl.Relation(impl.OpLe, order))
		checkRelation(t, impl.OpLe, order, impl.Relation(impl.OpLt, order) || impl.Relation(impl.OpEq, order))
		checkRelation(t, impl.OpGe, order, impl.Relation(impl.OpGt, order) || impl.Relation(impl.OpEq, order))
	}
	for _, order := range []int{less, equal, greater, none} {
		checkRelation(t, impl.OpGt, order, impl.Relation(impl.OpLt, opposite(order)))
		checkRelation(t, impl.OpGe, order, impl.Relation(impl.OpLe, opposite(order)))
	}
}

// TestRelationsOfScalarsAreOpposite has the same for values: scalars can always be compared.
func TestRelationsOfScalarsAreOpposite(t *testing.T) {
	isTrue := func(op int, a, b impl.Value) bool {
		v, code := impl.BinaryOp(op, a, b)
		if v.Kind != impl.KindBool || code != impl.ErrNone {
			t.Fatalf("BinaryOp(%d, %s, %s) = %s, %d", op, brief(a), brief(b), brief(v), code)
		}
		return v.Num == 1
	}
	for _, a := range scalars() {
		for _, b := range scalars() {
			for _, pair := range [][2]int{{impl.OpEq, impl.OpNe}, {impl.OpLt, impl.OpGe}, {impl.OpGt, impl.OpLe}, {impl.OpSame, impl.OpNotSame}} {
				if isTrue(pair[0], a, b) == isTrue(pair[1], a, b) {
					t.Fatalf("the operators %v say the same of %s and %s", pair, brief(a), brief(b))
				}
			}
			if isTrue(impl.OpLt, a, b) != isTrue(impl.OpGt, b, a) || isTrue(impl.OpLe, a, b) != isTrue(impl.OpGe, b, a) {
				t.Fatalf("the other way round, %s and %s are not in the opposite order", brief(a), brief(b))
			}
		}
	}
}

func TestBinaryArith(t *testing.T) {
	null, no, yes := impl.NullValue(), impl.BoolValue(false), impl.BoolValue(true)
	i, s := impl.IntValue, impl.TextValue
	for _, c := range []struct {
		op   int
		a, b impl.Value
		want int
		code int
	}{
		{impl.OpAdd, i(2), i(3), 5, 0}, {impl.OpAdd, s("2"), i(3), 5, 0}, {impl.OpAdd, s("02"), s("-03"), -1, 0}, {impl.OpAdd, null, null, 0, 0}, {impl.OpAdd, yes, yes, 2, 0}, {impl.OpAdd, no, i(7), 7, 0},
		{impl.OpSub, i(2), yes, 1, 0}, {impl.OpSub, null, s("5"), -5, 0}, {impl.OpSub, s("0000000001"), s("1"), 0, 0},
		{impl.OpMul, s("-4"), i(5), -20, 0}, {impl.OpMul, null, i(impl.MaxInt), 0, 0}, {impl.OpMul, yes, i(-impl.MaxInt), -impl.MaxInt, 0},
		{impl.OpDiv, i(-7), s("2"), -3, 0}, {impl.OpDiv, s("7"), yes, 7, 0}, {impl.OpMod, i(-7), s("2"), -1, 0}, {impl.OpMod, s("7"), i(-2), 1, 0},
		{impl.OpAdd, i(impl.MaxInt), yes, 0, impl.ErrOverflow}, {impl.OpAdd, s("1000000000"), s("1"), 0, impl.ErrOverflow}, {impl.OpSub, s("-1000000000"), i(1), 0, impl.ErrOverflow}, {impl.OpMul, s("1000000000"), s("1000000000"), 0, impl.ErrOverflow},
		{impl.OpDiv, i(1), i(0), 0, impl.ErrZero}, {impl.OpDiv, i(1), null, 0, impl.ErrZero}, {impl.OpDiv, i(1), no, 0, impl.ErrZero}, {impl.OpMod, i(1), s("-0"), 0, impl.ErrZero}, {impl.OpMod, null, null, 0, impl.ErrZero}, {impl.OpDiv, s("5"), s("00"), 0, impl.ErrZero},
		// The number of a text that is not numeric is not taken, not even if its number would be an error.
		{impl.OpAdd, s("1x"), i(1), 0, impl.ErrNumber}, {impl.OpAdd, i(1), s(""), 0, impl.ErrNumber}, {impl.OpSub, s(" 1"), i(1), 0, impl.ErrNumber}, {impl.OpMul, s("1000000001"), i(0), 0, impl.ErrNumber}, {impl.OpDiv, s("x"), i(0), 0, impl.ErrNumber}, {impl.OpDiv, i(1), s(""), 0, impl.ErrNumber}, {impl.OpMod, s("1.0"), i(impl.MaxInt + 1), 0, impl.ErrNumber},
		// An integer that is not valid has a number.
		{impl.OpAdd, i(impl.MaxInt + 1), i(-1), 0, impl.ErrOverflow}, {impl.OpMul, i(math.MinInt), null, 0, impl.ErrOverflow}, {impl.OpDiv, i(math.MinInt), i(-1), 0, impl.ErrOverflow}, {impl.OpDiv, i(impl.MaxInt + 1), i(0), 0, impl.ErrOverflow}, {impl.OpAdd, number(impl.KindBool, 7), null, 1, 0},
	} {
		checkBinary(t, c.op, c.a, c.b, impl.IntValue(c.want), c.code)
		checkBinaryAsModel(t, c.op, c.a, c.b)
	}
}

// TestBinaryArithOfValuesWithoutANumber has values of all other kinds on either side: two arrays can be added alone.
func TestBinaryArithOfValuesWithoutANumber(t *testing.T) {
	ops := append([]int{impl.OpAdd, impl.OpSub, impl.OpMul, impl.OpDiv, impl.OpMod}, noOperators()...)
	arrays := []impl.Value{impl.ArrayValue(), list(impl.IntValue(5)), nested(30, impl.IntValue(1))}
	for _, v := range slices.Concat(unlikeKinds(), arrays, textValues("", "x", "1x", "00000000001")) {
		for _, op := range ops {
			for _, other := range slices.Concat(intValues(0, 1, impl.MaxInt, impl.MaxInt+1), textValues("5", "x"), unlikeKinds()[:4], []impl.Value{impl.NullValue(), impl.BoolValue(true)}) {
				checkBinary(t, op, v, other, impl.NullValue(), impl.ErrNumber)
				checkBinary(t, op, other, v, impl.NullValue(), impl.ErrNumber)
			}
			if op != impl.OpAdd {
				checkBinary(t, op, v, v, impl.NullValue(), impl.ErrNumber)
			}
		}
	}
	for _, a := range arrays {
		for _, b := range arrays {
			checkUnionAsModel(t, a, b)
		}
		for _, bad := range badArrays() {
			checkBinary(t, impl.OpAdd, a, bad, impl.NullValue(), impl.ErrNumber)
		}
	}
}

func TestUnknownOperators(t *testing.T) {
	for _, op := range noOperators() {
		for _, a := range slices.Concat(scalars(), unlikeKinds()[:6], someArrays()[:6]) {
			for _, b := range []impl.Value{impl.NullValue(), impl.IntValue(1), impl.IntValue(0), impl.IntValue(impl.MaxInt + 1), impl.TextValue("x"), impl.ArrayValue()} {
				checkBinary(t, op, a, b, impl.NullValue(), impl.ErrNumber)
				checkBinary(t, op, b, a, impl.NullValue(), impl.ErrNumber)
			}
		}
	}
}

func TestConcat(t *testing.T) {
	null, no, yes := impl.NullValue(), impl.BoolValue(false), impl.BoolValue(true)
	for _, c := range []struct {
		a, b impl.Value
		want string
	}{
		{impl.TextValue("a"), impl.TextValue("b"), "ab"}, {impl.TextValue("b"), impl.TextValue("a"), "ba"}, {impl.TextValue(""), impl.TextValue(""), ""}, {impl.TextValue("a"), impl.TextValue(""), "a"}, {impl.TextValue(""), impl.TextValue("a"), "a"},
		{null, null, ""}, {null, no, ""}, {yes, yes, "11"}, {no, yes, "1"}, {yes, null, "1"}, {null, impl.TextValue("x"), "x"},
		{impl.IntValue(1), impl.IntValue(2), "12"}, {impl.IntValue(-1), impl.IntValue(-2), "-1-2"}, {impl.IntValue(0), impl.IntValue(0), "00"}, {impl.IntValue(impl.MaxInt), impl.IntValue(-impl.MaxInt), "1000000000-1000000000"}, {impl.IntValue(5), impl.TextValue(" days"), "5 days"}, {impl.TextValue("n="), impl.IntValue(-4), "n=-4"},
		{impl.TextValue("1"), impl.TextValue("2"), "12"}, {impl.TextValue("\xff\x00"), impl.TextValue("\xc3\xa9"), "\xff\x00\xc3\xa9"}, {impl.TextValue("\xc3"), impl.TextValue("\xa9"), "\xc3\xa9"},
		{number(impl.KindBool, 7), number(impl.KindBool, -1), "11"}, {impl.IntValue(math.MinInt), impl.IntValue(math.MaxInt), "-92233720368547758089223372036854775807"},
	} {
		checkBinary(t, impl.OpConcat, c.a, c.b, impl.Value{Kind: 3, Str: c.want}, impl.ErrNone)
	}
}

func TestLengthOfConcat(t *testing.T) {
	for length := range 402 {
		s := strings.Repeat("s", length)
		for _, other := range []int{399 - length, 400 - length, 401 - length, 0, 1, 400} {
			if other < 0 {
				continue
			}
			r := strings.Repeat("r", other)
			want, code := impl.Value{Kind: 3, Str: s + r}, impl.ErrNone
			if length+other > 400 {
				code = impl.ErrMemory
			}
			checkBinary(t, impl.OpConcat, impl.TextValue(s), impl.TextValue(r), want, code)
		}
	}
	// Lengths are in bytes, and count for numbers and booleans too.
	accents := impl.TextValue(strings.Repeat("\xc3\xa9", 200))
	checkBinary(t, impl.OpConcat, accents, impl.TextValue(""), accents, impl.ErrNone)
	checkBinary(t, impl.OpConcat, accents, impl.TextValue("a"), accents, impl.ErrMemory)
	for _, size := range []int{389, 390} {
		code := map[int]int{389: impl.ErrNone, 390: impl.ErrMemory}[size]
		s := strings.Repeat("x", size)
		checkBinary(t, impl.OpConcat, impl.TextValue(s), impl.IntValue(-impl.MaxInt), impl.Value{Kind: 3, Str: s + "-1000000000"}, code)
		checkBinary(t, impl.OpConcat, impl.IntValue(-impl.MaxInt), impl.TextValue(s), impl.Value{Kind: 3, Str: "-1000000000" + s}, code)
		checkBinary(t, impl.OpConcat, impl.TextValue(s+"1234567890"), impl.BoolValue(true), impl.Value{Kind: 3, Str: s + "12345678901"}, code)
	}
	// A text that is too long by itself stays too long.
	for _, size := range []int{401, 100000, 5000000} {
		s := impl.TextValue(strings.Repeat("a", size))
		for _, v := range []impl.Value{impl.NullValue(), impl.TextValue(""), impl.IntValue(7), s} {
			checkBinary(t, impl.OpConcat, s, v, s, impl.ErrMemory)
			checkBinary(t, impl.OpConcat, v, s, s, impl.ErrMemory)
		}
	}
}

// TestConcatOfValuesWithoutAText has a text that is too long beside them: that they have none comes first.
func TestConcatOfValuesWithoutAText(t *testing.T) {
	long := impl.TextValue(strings.Repeat("a", 401))
	arrays := []impl.Value{impl.ArrayValue(), list(impl.TextValue("x")), nested(20, impl.NullValue())}
	for _, v := range slices.Concat(unlikeKinds(), arrays) {
		for _, other := range []impl.Value{impl.NullValue(), impl.BoolValue(true), impl.IntValue(3), impl.TextValue("x"), long, impl.ArrayValue(), number(impl.KindObject, 1), v} {
			checkBinary(t, impl.OpConcat, v, other, impl.NullValue(), impl.ErrText)
			checkBinary(t, impl.OpConcat, other, v, impl.NullValue(), impl.ErrText)
		}
	}
}

func TestEqualAndIdenticalValues(t *testing.T) {
	no, yes := impl.BoolValue(false), impl.BoolValue(true)
	one, text := impl.IntValue(1), impl.TextValue("1")
	for _, c := range []struct {
		a, b            impl.Value
		isEqual, isSame bool
	}{
		{one, one, true, true}, {one, text, true, false}, {text, impl.TextValue("01"), true, false}, {impl.TextValue("a"), impl.TextValue("a"), true, true}, {impl.TextValue("a"), impl.TextValue("b"), false, false},
		{impl.NullValue(), no, true, false}, {impl.NullValue(), impl.NullValue(), true, true}, {yes, text, true, false}, {impl.NullValue(), impl.ArrayValue(), true, false},
		{list(one), list(text), true, false}, {list(one), array(9, list(one).Items...), true, true}, {list(one), array(0, entry(strKey("a"), one)), false, false},
		{array(2, entry(intKey(1), one), entry(intKey(0), one)), list(one, one), true, false}, {list(one), list(one, one), false, false},
		{number(impl.KindObject, 1), number(impl.KindObject, 1), true, true}, {number(impl.KindObject, 1), number(impl.KindObject, 2), false, false}, {number(impl.KindObject, 1), number(impl.KindClosure, 1), false, false},
	} {
		checkBinary(t, impl.OpEq, c.a, c.b, boolean(c.isEqual), impl.ErrNone)
		checkBinary(t, impl.OpEq, c.b, c.a, boolean(c.isEqual), impl.ErrNone)
		checkBinary(t, impl.OpNe, c.a, c.b, boolean(!c.isEqual), impl.ErrNone)
		checkBinary(t, impl.OpSame, c.a, c.b, boolean(c.isSame), impl.ErrNone)
		checkBinary(t, impl.OpSame, c.b, c.a, boolean(c.isSame), impl.ErrNone)
		checkBinary(t, impl.OpNotSame, c.a, c.b, boolean(!c.isSame), impl.ErrNone)
	}
}

// TestOrderOfValues has values in each order, and one pair that has none.
func TestOrderOfValues(t *testing.T) {
	for _, c := range []struct {
		a, b  impl.Value
		order int
	}{
		{impl.IntValue(1), impl.IntValue(2), less}, {impl.TextValue("10"), impl.IntValue(9), greater}, {impl.TextValue("01"), impl.IntValue(1), equal}, {impl.TextValue("a"), impl.TextValue("b"), less},
		{impl.ArrayValue(), impl.IntValue(5), greater}, {number(impl.KindObject, 1), list(impl.IntValue(5)), less}, {number(impl.KindObject, 1), impl.IntValue(1), none}, {list(impl.IntValue(1)), array(0, entry(strKey("a"), impl.IntValue(1))), none},
	} {
		checkBinary(t, impl.OpOrder, c.a, c.b, impl.IntValue(c.order), impl.ErrNone)
		checkBinary(t, impl.OpLt, c.a, c.b, boolean(c.order == less), impl.ErrNone)
		checkBinary(t, impl.OpLe, c.a, c.b, boolean(c.order == less || c.order == equal), impl.ErrNone)
		checkBinary(t, impl.OpGt, c.a, c.b, boolean(c.order == greater), impl.ErrNone)
		checkBinary(t, impl.OpGe, c.a, c.b, boolean(c.order == greater || c.order == equal), impl.ErrNone)
		checkBinary(t, impl.OpEq, c.a, c.b, boolean(c.order == equal), impl.ErrNone)
		checkBinary(t, impl.OpNe, c.a, c.b, boolean(c.order != equal), impl.ErrNone)
	}
	// The first value is compared with the second one, which counts where the keys are in another order.
	first := array(0, entry(strKey("a"), impl.IntValue(1)), entry(strKey("b"), impl.IntValue(2)))
	second := array(0, entry(strKey("b"), impl.IntValue(1)), entry(strKey("a"), impl.IntValue(2)))
	for _, pair := range [][2]impl.Value{{first, second}, {second, first}} {
		checkBinary(t, impl.OpOrder, pair[0], pair[1], impl.IntValue(less), impl.ErrNone)
		checkBinary(t, impl.OpLt, pair[0], pair[1], boolean(true), impl.ErrNone)
		checkBinary(t, impl.OpGt, pair[0], pair[1], boolean(false), impl.ErrNone)
	}
}

// TestEveryOperatorOfEveryPair has values of all kinds, valid or not.
func TestEveryOperatorOfEveryPair(t *testing.T) {
	values := slices.Concat(scalars(), unlikeKinds()[:27], someArrays(), badArrays()[:12], intValues(impl.MaxInt+1, math.MinInt), textValues(strings.Repeat("x", 399), strings.Repeat("x", 401)))
	seen := map[int]int{}
	for _, a := range values {
		for _, b := range values {
			for op := -1; op <= 17; op++ {
				want, code := modelBinary(op, a, b)
				seen[code]++
				checkBinary(t, op, a, b, want, code)
			}
		}
		if t.Failed() {
			return
		}
	}
	for _, code := range []int{impl.ErrNone, impl.ErrText, impl.ErrNumber, impl.ErrOverflow, impl.ErrZero, impl.ErrMemory} {
		if seen[code] < 100 {
			t.Errorf("the code %d occurs %d times", code, seen[code])
		}
	}
}

// TestOperatorsGoByTheKind has values with fields that their kinds do not have.
func TestOperatorsGoByTheKind(t *testing.T) {
	var values []impl.Value
	for kind := -1; kind <= 9; kind++ {
		for _, s := range []string{"", "8", "x"} {
			for _, items := range [][]impl.Entry{nil, list(impl.NullValue()).Items} {
				values = append(values, impl.Value{Kind: kind, Num: 3, Str: s, Next: len(items), Items: items}, impl.Value{Kind: kind, Str: s, Items: items})
			}
		}
	}
	for _, a := range values {
		for _, op := range []int{impl.UnNot, impl.UnNeg, 3} {
			want, code := modelUnary(op, a)
			checkUnary(t, op, a, want, code)
		}
		for _, b := range values {
			for op := 0; op <= 16; op++ {
				checkBinaryAsModel(t, op, a, b)
			}
		}
		if t.Failed() {
			return
		}
	}
}

// TestResultsAreValid has valid values alone: what operators make of them is valid too.
func TestResultsAreValid(t *testing.T) {
	var values []impl.Value
	for _, v := range slices.Concat(scalars(), someArrays(), smallValues()[:60], unlikeKinds()[:12]) {
		if impl.IsValue(v) {
			values = append(values, v)
		}
	}
	for _, a := range values {
		for _, b := range values {
			for op := 0; op <= 16; op++ {
				if v, _ := impl.BinaryOp(op, a, b); !impl.IsValue(v) {
					t.Fatalf("BinaryOp(%d, %s, %s) = %s", op, brief(a), brief(b), brief(v))
				}
			}
		}
		for op := 0; op <= 3; op++ {
			if v, _ := impl.UnaryOp(op, a); !impl.IsValue(v) {
				t.Fatalf("UnaryOp(%d, %s) = %s", op, brief(a), brief(v))
			}
		}
	}
}

func TestNot(t *testing.T) {
	no, yes := number(1, 0), number(1, 1)
	for _, v := range slices.Concat(intValues(1, -1, 2, impl.MaxInt, math.MinInt), textValues("1", "00", "-0", "0.0", " ", "a", "false"), unlikeKinds(), []impl.Value{impl.BoolValue(true), number(impl.KindBool, 5), list(impl.NullValue()), list(impl.ArrayValue())}) {
		checkUnary(t, impl.UnNot, v, no, impl.ErrNone)
	}
	for _, v := range []impl.Value{impl.NullValue(), impl.BoolValue(false), impl.IntValue(0), impl.TextValue(""), impl.TextValue("0"), impl.ArrayValue(), array(5), {Num: 3, Str: "x"}} {
		checkUnary(t, impl.UnNot, v, yes, impl.ErrNone)
	}
}

func TestNegation(t *testing.T) {
	const most = impl.MaxInt
	for _, c := range []struct {
		v    impl.Value
		want int
	}{
		{impl.IntValue(0), 0}, {impl.IntValue(1), -1}, {impl.IntValue(-1), 1}, {impl.IntValue(42), -42}, {impl.IntValue(most), -most}, {impl.IntValue(-most), most}, {impl.IntValue(most - 1), 1 - most},
		{impl.NullValue(), 0}, {impl.BoolValue(false), 0}, {impl.BoolValue(true), -1}, {number(impl.KindBool, 9), -1},
		{impl.TextValue("5"), -5}, {impl.TextValue("-5"), 5}, {impl.TextValue("05"), -5}, {impl.TextValue("0"), 0}, {impl.TextValue("-0"), 0}, {impl.TextValue("1000000000"), -most}, {impl.TextValue("-1000000000"), most},
	} {
		checkUnary(t, impl.UnNeg, c.v, impl.IntValue(c.want), impl.ErrNone)
	}
	for _, n := range []int{most + 1, -most - 1, 1 << 32, -1 << 32, math.MaxInt, math.MinInt, math.MinInt + 1} {
		checkUnary(t, impl.UnNeg, impl.IntValue(n), impl.NullValue(), impl.ErrOverflow)
	}
	for _, v := range slices.Concat(textValues("", "x", "1x", " 1", "--1", "-", "+1", "1000000001", "00000000001", "1.5"), unlikeKinds(), []impl.Value{impl.ArrayValue(), list(impl.IntValue(1)), nested(9, impl.IntValue(1))}) {
		checkUnary(t, impl.UnNeg, v, impl.NullValue(), impl.ErrNumber)
	}
}

func TestUnknownUnaryOperators(t *testing.T) {
	for _, op := range append(noOperators(), 3, 4, 5, 6, 7, 15, 1<<32+2) {
		for _, v := range []impl.Value{impl.NullValue(), impl.BoolValue(true), impl.IntValue(1), impl.IntValue(impl.MaxInt + 1), impl.TextValue("5"), impl.TextValue("x"), impl.ArrayValue(), list(impl.IntValue(1)), number(impl.KindObject, 1), number(99, 1)} {
			if op != 1 && op != 2 {
				checkUnary(t, op, v, impl.NullValue(), impl.ErrNumber)
			}
		}
	}
}

func TestUnaryOperatorsOfEveryValue(t *testing.T) {
	for _, v := range allValues() {
		for _, op := range []int{impl.UnNot, impl.UnNeg, 0, 3, -1} {
			want, code := modelUnary(op, v)
			checkUnary(t, op, v, want, code)
		}
		negated, code := impl.UnaryOp(impl.UnNeg, v)
		if n, _ := impl.ToNumber(v); code == impl.ErrNone {
			checkUnary(t, impl.UnNeg, negated, impl.IntValue(n), impl.ErrNone)
		}
		not, _ := impl.UnaryOp(impl.UnNot, v)
		checkUnary(t, impl.UnNot, not, boolean(impl.ToBool(v)), impl.ErrNone)
	}
}

// operatorResults is the values that all functions of this chapter make of two values.
func operatorResults(a, b impl.Value) []impl.Value {
	union, _ := impl.Union(a, b)
	results := []impl.Value{union}
	for op := 0; op <= 16; op++ {
		v, _ := impl.BinaryOp(op, a, b)
		w, _ := impl.UnaryOp(op, a)
		results = append(results, v, w)
	}
	return results
}

// sharingOperands has values that share memory, and texts of which one is empty, so that the other one could be given back as it is.
func sharingOperands() []impl.Value {
	shared := impl.TextValue("shared")
	key := strKey(strings.Clone("key"))
	some := array(1, entry(key, shared), entry(intKey(0), list(shared)))
	twice := list(some, some, shared, shared)
	roomy := withRoom(twice)
	return append(sharingArguments(), shared, impl.TextValue("7"), impl.TextValue(""), impl.BoolValue(true), impl.BoolValue(false), impl.IntValue(5), impl.IntValue(123456), some, twice, roomy, list(twice, roomy))
}

// withRoom has items in the memory behind those of v.
func withRoom(v impl.Value) impl.Value {
	spare := entry(strKey("spare"), impl.IntValue(77))
	count := len(v.Items)
	v.Items = append(slices.Clone(v.Items), spare, spare, spare)[:count]
	return v
}

func TestResultsOfOperatorsShareNoMemory(t *testing.T) {
	operands := sharingOperands()
	for _, a := range operands {
		for _, b := range append(operands, a) {
			given, got := newMemory(), newMemory()
			given.addValue(a)
			given.addValue(b)
			seen := 0
			for _, v := range operatorResults(a, b) {
				if cap(v.Items) > 0 || v.Str != "" {
					before := len(got.texts)
					seen += got.addValue(v)
					if v.Str != "" && len(got.texts) == before {
						t.Fatalf("two results of %s and %s have the same text", brief(a), brief(b))
					}
				}
			}
			if got.meets(given) {
				t.Fatalf("a result of %s and %s shares memory with them", brief(a), brief(b))
			}
			if seen != len(got.items) {
				t.Fatalf("two lists of results of %s and %s are in the same memory", brief(a), brief(b))
			}
		}
	}
}

// TestTextsOfResultsAreTheirOwn has texts that the program may have as constants.
func TestTextsOfResultsAreTheirOwn(t *testing.T) {
	for _, v := range append(intValues(0, 5, 42), impl.BoolValue(true), impl.TextValue("x")) {
		got := newMemory()
		for i := range 4 {
			first, _ := impl.BinaryOp(impl.OpConcat, v, impl.NullValue())
			second, _ := impl.BinaryOp(impl.OpConcat, impl.NullValue(), v)
			got.addText(first.Str)
			got.addText(second.Str)
			if len(got.texts) != 2*i+2 {
				t.Fatalf("two texts of %s are in the same memory", brief(v))
			}
		}
	}
}

func TestOperatorsLeaveTheirArguments(t *testing.T) {
	for i, a := range sharingOperands() {
		for j, b := range sharingOperands() {
			before, other := withSpare(a), withSpare(b)
			for _, v := range operatorResults(a, b) {
				spoil(v)
				_ = append(v.Items, entry(strKey("more"), impl.NullValue()))
			}
			if !reflect.DeepEqual(withSpare(a), before) || !reflect.DeepEqual(withSpare(b), other) {
				t.Fatalf("the values %d and %d have changed", i, j)
			}
			operatorResults(a, a)
			if !reflect.DeepEqual(withSpare(a), before) {
				t.Fatalf("the value %d has changed", i)
			}
		}
	}
}

func TestChangedOperandsDoNotChangeResults(t *testing.T) {
	for i := range sharingOperands() {
		for j := range sharingOperands() {
			a, b := sharingOperands()[i], sharingOperands()[j]
			results := operatorResults(a, b)
			spoil(a)
			spoil(b)
			want := operatorResults(sharingOperands()[i], sharingOperands()[j])
			if !slices.EqualFunc(results, want, isSame) {
				t.Fatalf("results of the values %d and %d have changed", i, j)
			}
		}
	}
}

// TestOperatorsOfVastValues has values that cannot be gone through.
func TestOperatorsOfVastValues(t *testing.T) {
	values := append(vastValues(), nested(50000, impl.NullValue()), list(nulls(50000)...))
	before := vastValues()
	for _, a := range values {
		for _, b := range append(values[:len(values):len(values)], impl.ArrayValue(), impl.IntValue(1), impl.TextValue("x")) {
			checkUnion(t, a, b, impl.NullValue(), impl.ErrNumber)
			checkUnion(t, b, a, impl.NullValue(), impl.ErrNumber)
			checkBinary(t, impl.OpConcat, a, b, impl.NullValue(), impl.ErrText)
			checkBinary(t, impl.OpConcat, b, a, impl.NullValue(), impl.ErrText)
			operatorResults(a, b)
		}
		checkBinary(t, impl.OpSame, a, a, boolean(true), impl.ErrNone)
		checkUnary(t, impl.UnNot, a, boolean(false), impl.ErrNone)
		checkUnary(t, impl.UnNeg, a, impl.NullValue(), impl.ErrNumber)
	}
	for i, v := range before {
		checkIdentical(t, values[i], v, true)
	}
}

// TestOperatorsGoDeeperThanCalls would run out of stack if a function called itself for each array.
func TestOperatorsGoDeeperThanCalls(t *testing.T) {
	defer debug.SetMaxStack(debug.SetMaxStack(1 << 20))
	deep, other := nested(50000, impl.IntValue(1)), nested(50000, impl.IntValue(2))
	checkUnion(t, deep, other, impl.NullValue(), impl.ErrNumber)
	checkUnion(t, impl.ArrayValue(), deep, impl.NullValue(), impl.ErrNumber)
	checkBinary(t, impl.OpOrder, deep, other, impl.IntValue(less), impl.ErrNone)
	checkBinary(t, impl.OpSame, deep, deep, boolean(true), impl.ErrNone)
	checkBinary(t, impl.OpNotSame, deep, other, boolean(true), impl.ErrNone)
	checkUnary(t, impl.UnNot, deep, boolean(false), impl.ErrNone)
}

func TestOperatorsAreRepeatable(t *testing.T) {
	values := append(sharingOperands(), scalars()[:20]...)
	for _, a := range values {
		for _, b := range values {
			first := operatorResults(a, b)
			operatorResults(b, list(a, b))
			if !slices.EqualFunc(operatorResults(a, b), first, isSame) {
				t.Fatalf("results of %s and %s are others the second time", brief(a), brief(b))
			}
		}
	}
}
