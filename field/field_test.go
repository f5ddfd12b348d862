package field_test

import (
	"math"
	"math/big"
	"math/bits"
	"slices"
	"testing"

	"lockbox/api"
	"lockbox/field"
)

var (
	nought = api.Pair{}
	one    = api.Pair{0, 1}
	ones   = api.Pair{math.MaxUint64, math.MaxUint64}
	some   = api.Pair{0x123456789abcdef0, 0xfedcba9876543210}
	other  = api.Pair{0x0f0e0d0c0b0a0908, 0x0706050403020100}
)

// known has what was worked out apart from this program: two Pairs and their product.
var known = [][3]api.Pair{
	{ones, ones, {0x5555555555555555, 0x555555555555402f}},
	{ones, {0, 2}, {math.MaxUint64, 0xffffffffffffff79}},
	{ones, {1 << 63, 0}, {0, 0x1fc7}},
	{{1 << 63, 0}, {0, 2}, {0, 135}},
	{{1 << 63, 0}, {0, 4}, {0, 0x10e}},
	{{1 << 63, 0}, {1 << 57, 0}, {0x8700000000000000, 0}},
	{{1 << 63, 0}, {1 << 58, 0}, {0x0e00000000000000, 0x87}},
	{{1 << 63, 0}, {1 << 63, 0}, {0xc000000000000000, 0x1067}},
	{{1 << 63, 0x43}, {0, 2}, one},
	{{1, 0}, {1, 0}, {0, 0x87}},
	{{0, 1 << 63}, {0, 2}, {1, 0}},
	{{0, 3}, {0, 3}, {0, 5}},
	{some, other, {0x52c989da81335a33, 0x3b17a2a2bc4625e0}},
	{some, some, {0xd04ac228b8228ba1, 0x71eb638919832a00}},
	{other, other, {0x2b3e2bb8292629a0, 0x235e23d8214621c0}},
	{some, ones, {0x2d8e4735ff5c95cb, 0x278db1260aa09fb5}},
	{{math.MaxUint64, 0}, {0, math.MaxUint64}, {0x555555555555557e, 0x2b}},
	{{math.MaxUint64, 0}, {math.MaxUint64, 0}, {0, 0x157a}},
	{{0, math.MaxUint64}, {0, math.MaxUint64}, {0x5555555555555555, 0x5555555555555555}},
	{{0xaaaaaaaaaaaaaaaa, 0xaaaaaaaaaaaaaaaa}, {0x5555555555555555, 0x5555555555555555}, {0xdddddddddddddddd, 0xddddddddddddd53b}},
}

// power is the Pair of the one power n, of 0 to 127.
func power(n int) api.Pair {
	if n < 64 {
		return api.Pair{0, 1 << n}
	}
	return api.Pair{1 << (n - 64), 0}
}

// powers has all Pairs of one digit.
func powers() []api.Pair {
	var l []api.Pair
	for i := range 128 {
		l = append(l, power(i))
	}
	return l
}

// edges has Pairs at the ends of their two numbers.
func edges() []api.Pair {
	words := []uint64{0, 1, 2, 135, 1 << 57, 1 << 62, 1 << 63, math.MaxInt64, math.MaxUint64 - 1, math.MaxUint64}
	var l []api.Pair
	for _, high := range words {
		for _, low := range words {
			l = append(l, api.Pair{high, low})
		}
	}
	return l
}

// strewn has n Pairs without a pattern, the same ones each time.
func strewn(n int) []api.Pair {
	l := make([]api.Pair, n)
	v := uint64(0x9e3779b97f4a7c15)
	for i := range l {
		for j := range l[i] {
			v = v*6364136223846793005 + 1442695040888963407
			l[i][j] = bits.RotateLeft64(v^v>>29, int(v>>58))
		}
	}
	return l
}

// whole is a Pair as one whole number, its digit i the one at the power i.
func whole(p api.Pair) *big.Int {
	v := new(big.Int).SetUint64(p[0])
	return v.Lsh(v, 64).Or(v, new(big.Int).SetUint64(p[1]))
}

// pair is a whole number of at most 128 digits as a Pair.
func pair(v *big.Int) api.Pair {
	low := new(big.Int).And(v, new(big.Int).SetUint64(math.MaxUint64))
	return api.Pair{new(big.Int).Rsh(v, 64).Uint64(), low.Uint64()}
}

// flip turns one digit of v over.
func flip(v *big.Int, i int) { v.SetBit(v, i, 1-v.Bit(i)) }

// bookAdd is the sum, digit by digit.
func bookAdd(a, b api.Pair) api.Pair {
	sum := whole(a)
	for i := range 128 {
		if whole(b).Bit(i) == 1 {
			flip(sum, i)
		}
	}
	return pair(sum)
}

// bookMul is the product of all powers first; those from 128 on are taken out
// behind it, the highest first.
func bookMul(a, b api.Pair) api.Pair {
	v, w, product := whole(a), whole(b), new(big.Int)
	for i := range v.BitLen() {
		if v.Bit(i) == 1 {
			product.Xor(product, new(big.Int).Lsh(w, uint(i)))
		}
	}
	for i := product.BitLen() - 1; i >= 128; i-- {
		if product.Bit(i) == 0 {
			continue
		}
		flip(product, i)
		for _, k := range []int{7, 2, 1, 0} {
			flip(product, i-128+k)
		}
	}
	return pair(product)
}

// bookEval is P3.1, word for word.
func bookEval(h api.Pair, l []api.Pair) api.Pair {
	sum := api.Pair{}
	for _, it := range l {
		sum = bookMul(bookAdd(it, sum), h)
	}
	return sum
}

// checkMul holds a product, in either order, against what is wanted.
func checkMul(t *testing.T, a, b, want api.Pair) {
	t.Helper()
	if got := field.Mul(a, b); got != want {
		t.Errorf("Mul(%#x, %#x) = %#x, want %#x", a, b, got, want)
	}
	if got := field.Mul(b, a); got != want {
		t.Errorf("Mul(%#x, %#x) = %#x, want %#x", b, a, got, want)
	}
}

// P3.1

func TestExample(t *testing.T) {
	checkMul(t, power(127), power(1), api.Pair{0, 135})
}

func TestAddIsDigitByDigit(t *testing.T) {
	for _, x := range [][3]api.Pair{
		{nought, nought, nought},
		{one, one, nought},
		{one, {0, 3}, {0, 2}},
		{ones, one, {math.MaxUint64, math.MaxUint64 - 1}},
		{ones, ones, nought},
		{ones, nought, ones},
		{{0, math.MaxUint64}, one, {0, math.MaxUint64 - 1}},
		{{1 << 63, 2}, {3, 4}, {1<<63 | 3, 6}},
		{{12, 10}, {10, 12}, {6, 6}},
	} {
		if got := field.Add(x[0], x[1]); got != x[2] {
			t.Errorf("Add(%#x, %#x) = %#x, want %#x", x[0], x[1], got, x[2])
		}
	}
	for _, a := range slices.Concat(edges(), strewn(20)) {
		for _, b := range slices.Concat(powers(), strewn(20)) {
			if got, want := field.Add(a, b), bookAdd(a, b); got != want {
				t.Errorf("Add(%#x, %#x) = %#x, want %#x", a, b, got, want)
			}
		}
	}
}

func TestKnownProducts(t *testing.T) {
	for _, x := range known {
		checkMul(t, x[0], x[1], x[2])
	}
}

func TestProductsOfSinglePowers(t *testing.T) {
	for i := range 128 {
		for k := range 128 {
			want := bookMul(power(i), power(k))
			if i+k < 128 {
				want = power(i + k)
			}
			checkMul(t, power(i), power(k), want)
		}
	}
}

func TestProductsJustBeyondTheHighestPower(t *testing.T) {
	// Up to power 248 one taking out is enough: 7 more than n - 128 is still below 128.
	for n := 128; n <= 248; n++ {
		want := nought
		for _, k := range []int{7, 2, 1, 0} {
			want = bookAdd(want, power(n-128+k))
		}
		checkMul(t, power(127), power(n-127), want)
	}
	// From 249 on the power that is put in is itself beyond, and taken out too.
	for n := 249; n <= 254; n++ {
		want := nought
		for _, k := range []int{7, 2, 1, 0} {
			if at := n - 128 + k; at < 128 {
				want = bookAdd(want, power(at))
			} else {
				want = bookAdd(want, api.Pair{0, 135 << (at - 128)})
			}
		}
		checkMul(t, power(127), power(n-127), want)
	}
}

func TestMulIsTheBooks(t *testing.T) {
	for _, a := range slices.Concat(edges(), strewn(30)) {
		for _, b := range slices.Concat(edges(), strewn(30)) {
			if got, want := field.Mul(a, b), bookMul(a, b); got != want {
				t.Errorf("Mul(%#x, %#x) = %#x, want %#x", a, b, got, want)
			}
		}
	}
}

func TestEvalOfKnownRows(t *testing.T) {
	row := []api.Pair{one, other, ones, nought, power(127)}
	for n, want := range []api.Pair{
		nought,
		{0x123456789abcdef0, 0xfedcba9876543210},
		{0x82834bf23911d192, 0x4afcc12ba5c50fe0},
		{0xffb11664077b497b, 0xad86ad37de9ad1ad},
		{0xffa5a0f0398016c7, 0x672740d4b1ef7151},
		{0x50faa65a3202722e, 0xfa88716da5d703a0},
	} {
		if got := field.Eval(some, row[:n]); got != want {
			t.Errorf("Eval of the first %d = %#x, want %#x", n, got, want)
		}
	}
}

func TestEvalOfNoPairIsNought(t *testing.T) {
	for _, h := range []api.Pair{nought, one, ones, some} {
		for _, l := range [][]api.Pair{nil, {}, strewn(4)[:0]} {
			if got := field.Eval(h, l); got != nought {
				t.Errorf("Eval(%#x, no Pair) = %#x", h, got)
			}
		}
	}
}

func TestEvalOfOneIsItsProduct(t *testing.T) {
	for _, h := range slices.Concat(edges(), strewn(20)) {
		for _, it := range []api.Pair{nought, one, ones, some, power(127)} {
			if got, want := field.Eval(h, []api.Pair{it}), bookMul(it, h); got != want {
				t.Errorf("Eval(%#x, %#x) = %#x, want %#x", h, it, got, want)
			}
		}
	}
}

func TestEvalIsItsStepsOneByOne(t *testing.T) {
	rows := [][]api.Pair{
		{some, other},
		{other, some},
		{nought, nought, some},
		{some, nought},
		{nought, some, nought},
		{ones, ones, ones, ones},
		powers(),
		strewn(300),
	}
	for _, h := range slices.Concat([]api.Pair{nought, one, ones, some, power(1), power(127)}, strewn(5)) {
		for i, l := range rows {
			if got, want := field.Eval(h, l), bookEval(h, l); got != want {
				t.Errorf("row %d: Eval by %#x = %#x, want %#x", i, h, got, want)
			}
		}
	}
}

func TestEvalLeavesTheRowAsItIs(t *testing.T) {
	all := strewn(12)
	want := slices.Clone(all)
	for n := range all {
		first := field.Eval(some, all[:n])
		again := field.Eval(some, all[:n])
		if first != again {
			t.Errorf("Eval of %d Pairs = %#x, then %#x", n, first, again)
		}
		if !slices.Equal(all, want) {
			t.Fatalf("Eval of %d Pairs changed the row, or the room behind it: %#x, want %#x", n, all, want)
		}
	}
}

func TestEvalKeepsNothing(t *testing.T) {
	row := strewn(6)
	want := bookEval(some, row)
	if got := field.Eval(some, row); got != want {
		t.Fatalf("Eval = %#x, want %#x", got, want)
	}
	clear(row)
	if got := field.Eval(some, row); got != nought {
		t.Errorf("Eval of noughts = %#x", got)
	}
	field.Mul(ones, ones)
	if got := field.Eval(some, strewn(6)); got != want {
		t.Errorf("Eval of the row again = %#x, want %#x", got, want)
	}
}

// P3.2

func TestMulDoesNotHangOnOrder(t *testing.T) {
	l := slices.Concat(edges(), strewn(40))
	for i, a := range l {
		for _, b := range l[:i] {
			if got, back := field.Mul(a, b), field.Mul(b, a); got != back {
				t.Errorf("Mul(%#x, %#x) = %#x, turned round %#x", a, b, got, back)
			}
		}
	}
}

func TestMulDoesNotHangOnBrackets(t *testing.T) {
	l := slices.Concat([]api.Pair{one, ones, power(1), power(64), power(127)}, strewn(15))
	for _, a := range l {
		for _, b := range l {
			for _, c := range l {
				left, right := field.Mul(field.Mul(a, b), c), field.Mul(a, field.Mul(b, c))
				if left != right {
					t.Errorf("of %#x, %#x, %#x: %#x and %#x", a, b, c, left, right)
				}
			}
		}
	}
}

func TestMulGoesOverAdd(t *testing.T) {
	l := slices.Concat([]api.Pair{nought, one, ones, power(63), power(127)}, strewn(15))
	for _, a := range l {
		for _, b := range l {
			for _, c := range l {
				got := field.Mul(a, field.Add(b, c))
				if want := field.Add(field.Mul(a, b), field.Mul(a, c)); got != want {
					t.Errorf("of %#x, %#x, %#x: %#x, want %#x", a, b, c, got, want)
				}
			}
		}
	}
}

func TestOneLeavesAllAsItIs(t *testing.T) {
	for _, a := range slices.Concat(edges(), powers(), strewn(100)) {
		checkMul(t, a, one, a)
	}
}

func TestNoughtMakesAllNought(t *testing.T) {
	for _, a := range slices.Concat(edges(), powers(), strewn(100)) {
		checkMul(t, a, nought, nought)
	}
}

func TestOfTwoThatAreNotNoughtTheProductIsNot(t *testing.T) {
	l := slices.Concat(edges(), powers(), strewn(40))
	for _, a := range l {
		for _, b := range l {
			if a == nought || b == nought {
				continue
			}
			if got := field.Mul(a, b); got == nought {
				t.Errorf("Mul(%#x, %#x) = %#x", a, b, got)
			}
		}
	}
}

// inverse is a to the power of 2^128 - 2.
func inverse(a api.Pair) api.Pair {
	out := one
	for range 127 {
		a = field.Mul(a, a)
		out = field.Mul(out, a)
	}
	return out
}

func TestWhatIsNotNoughtHasAnInverse(t *testing.T) {
	// Where all have one, no product of two can be nought.
	for _, a := range slices.Concat(edges(), powers(), strewn(40)) {
		if a == nought {
			continue
		}
		checkMul(t, a, inverse(a), one)
	}
}
