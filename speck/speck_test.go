package speck_test

import (
	"math"
	"math/big"
	"math/bits"
	"slices"
	"testing"

	"lockbox/api"
	"lockbox/speck"
)

var (
	exampleKey   = api.Pair{0x0f0e0d0c0b0a0908, 0x0706050403020100}
	exampleBlock = api.Pair{0x6c61766975716520, 0x7469206564616d20}
	exampleOut   = api.Pair{0xa65d985179783265, 0x7860fedf5c570d18}
	noughts      = api.Pair{}
	ones         = api.Pair{math.MaxUint64, math.MaxUint64}
)

// known has what was worked out apart from this program, in each row: a key, a
// block, what Encrypt makes of it, what Decrypt makes of it.
var known = [][4]api.Pair{
	{exampleKey, exampleBlock, exampleOut, {0xf3309fc34b59bba1, 0xdf0861cc16f761ed}},
	{noughts, noughts, {0x665c02fddcf38d76, 0x208ed74c037f0a6d}, {0x39a5f28a044566c6, 0x1da24c285c32918c}},
	{noughts, ones, {0x61372d516a2e055f, 0x238ffdb38f00081a}, {0x1739c819b7a2fc4c, 0x08a3c13572e5e18a}},
	{ones, noughts, {0x90e6cad792658508, 0x0e82f2e31fe7b7b6}, {0x8b3da8fc7c9b4715, 0xac143def5d44f4f9}},
	{ones, ones, {0x3f35e88fba985eb3, 0x8d3b9d66dc74d36a}, {0x6bcc53241b05aac6, 0x1aa81a23d5834e01}},
	{exampleKey, noughts, {0x30d6a63d14eadec5, 0x06bb2d75b7aef13d}, {0x63fe6fcb05ca317d, 0xd52482a8070689dd}},
	{exampleKey, ones, {0xb2064d09f63f2735, 0x20a969492e23e35d}, {0x63d2b0c59aa25aa3, 0xe172f8d906f9c96a}},
	{noughts, exampleBlock, {0x00c0adb465786726, 0x9739aca880e2c146}, {0x613c1b24709caeb3, 0xeb1e6c06b37692e2}},
	{ones, exampleBlock, {0xf6642dc696e9e717, 0xf9d6356bdd90f302}, {0x31bdb31dc2ec80ad, 0xe0ab59b2890e8531}},
	{{0, 1}, noughts, {0x53a74e35dd73c751, 0xb4094e6431caa87d}, {0x8e45e90015880d30, 0xe506bf7473e71507}},
	{{1, 0}, noughts, {0xe56a55a01c91c706, 0x10062e0eaf5c7bfe}, {0x3586e2a37208d520, 0x634cbb5e544d67bd}},
	{{1 << 63, 1 << 63}, {1 << 63, 1 << 63}, {0x10d359b365aff65d, 0xb24f9f901f9e3a24}, {0x76293fc41c0fed81, 0x63d8fbfa6a7e8afe}},
	{noughts, {0xff, math.MaxUint64}, {0xf9a0d175797d882c, 0xcd866bdb9563fe8a}, {0x0b4af3a7b40f1393, 0x9e4ab78898829d7d}},
	{noughts, {0, 1}, {0x699b77fd7aa52504, 0xaa0101eca855b2e6}, {0x13640bfd7bda8b04, 0xb1f4a75eaf8988cb}},
}

// edges has pairs at which digits are carried, dropped and turned.
func edges() []api.Pair {
	words := []uint64{0, 1, 7, 8, 0xff, 0x100, 1 << 61, 1 << 63, math.MaxInt64, math.MaxUint64 - 1, math.MaxUint64}
	var l []api.Pair
	for _, high := range words {
		for _, low := range words {
			l = append(l, api.Pair{high, low})
		}
	}
	return l
}

// single has the pairs of one binary digit.
func single() []api.Pair {
	var l []api.Pair
	for i := range 64 {
		l = append(l, api.Pair{1 << i, 0}, api.Pair{0, 1 << i})
	}
	return l
}

// strewn has n pairs without a pattern, the same ones each time.
func strewn(n int) []api.Pair {
	l := make([]api.Pair, n)
	v := uint64(0x9e3779b97f4a7c15)
	for i := range l {
		for j := range l[i] {
			v = v*6364136223846793005 + 1442695040888963407
			l[i][j] = bits.RotateLeft64(v^v>>29, int(v>>58))
		}
	}
	return l
}

// whole is a number of any size; all steps below are done in whole numbers,
// and cut to 64 digits where the document does it.
func whole(v uint64) *big.Int { return new(big.Int).SetUint64(v) }

// cut is the lowest 64 digits.
func cut(v *big.Int) uint64 {
	return new(big.Int).And(v, whole(math.MaxUint64)).Uint64()
}

// left is v, turned left by n digits.
func left(v uint64, n uint) uint64 {
	high := new(big.Int).Lsh(whole(v), n)
	low := new(big.Int).Rsh(high, 64)
	return cut(high) | low.Uint64()
}

// right is v, turned right by n digits.
func right(v uint64, n uint) uint64 { return left(v, 64-n) }

// add is the lowest 64 digits of a sum.
func add(v, w uint64) uint64 { return cut(new(big.Int).Add(whole(v), whole(w))) }

// bookKeys is P2.1, word for word.
func bookKeys(key api.Pair) []uint64 {
	k, l := key[1], key[0]
	var numbers []uint64
	for i := range uint64(32) {
		numbers = append(numbers, k)
		l = add(right(l, 8), k) ^ i
		k = left(k, 3) ^ l
	}
	return numbers
}

// bookEncrypt is P2.2, word for word.
func bookEncrypt(key, block api.Pair) api.Pair {
	x, y := block[0], block[1]
	for _, it := range bookKeys(key) {
		x = add(right(x, 8), y) ^ it
		y = left(y, 3) ^ x
	}
	return api.Pair{x, y}
}

// P2.1

func TestKeysAreTheBooksNumbers(t *testing.T) {
	for _, x := range []struct {
		name string
		key  api.Pair
		want []uint64
	}{
		{"the example's", exampleKey, []uint64{
			0x0706050403020100, 0x37253b31171d0309, 0xf91d89cc90c4085c, 0xc6b1f07852cc7689,
			0x014fcdf4f9c2d6f0, 0xb5fae1e4fe24cfd6, 0xa36d6954b0737cfe, 0xf511691ea02f35f3,
			0x5374abb75a2b455d, 0x8dd5f6204ddcb2a5, 0xb243d7c9869cac18, 0x753e7a7c6660459e,
			0x78d648a3a5b0e63b, 0x87152b23cbc0a8d2, 0xa8ff8b8c54a3b6f2, 0x4873be3c43b3ea79,
			0x771ebffcbf05cb13, 0xe8a6bcaf25863d20, 0xe6c2ea8b5c520c93, 0x4d71b5c1ac5214f5,
			0xdc60b2ae253070dc, 0xb01d0abbe1fb9741, 0xd7987684a318b54a, 0xa22c5282e600d319,
			0xe029d67ebdf90048, 0x67559234c84efdbf, 0x65173cf0cb01695c, 0x24cf1f1879819519,
			0x38a36ed2dbafb72a, 0xded93cfe31bae304, 0xc53d18b91770b265, 0x2199c870db8ec93f,
		}},
		{"all noughts", noughts, []uint64{
			0x0000000000000000, 0x0000000000000000, 0x0000000000000001, 0x010000000000000b,
			0x0c01000000000050, 0x740d0100000002d4, 0x68490e0100001472, 0x78595f0f0100b7e1,
			0x28598846000408f9, 0x598859863e2c4d71, 0xdde15190050832f8, 0xa0f879ad8ebd0a9d,
			0xfb8ba1cec98c53dc, 0xf1dae44d202a2908, 0x6fdf4e5e5ac739f5, 0x5c3a2438441b1fc3,
			0x258dc54d2e75bc86, 0xee3c0858ce298de9, 0xb71e18bc8eab7d0c, 0x4215d2f37cf08c69,
			0x5fbe2f91747e5494, 0xc3fc3cc2dce0ea7d, 0xbcdbac15c158af30, 0x7da386f1ceba76bf,
			0x552332565bad4022, 0x87c2e3eeeeb1be1d, 0xa8e6a0173f686929, 0x2948916f64f00795,
			0x4bf3847a1c0f8651, 0x1c691859fd37249d, 0xd0e5cf5a6fed4b46, 0xf83706bb7a19c59d,
		}},
		{"all ones", ones, []uint64{
			0xffffffffffffffff, 0x0000000000000001, 0xff00000000000009, 0xf8ff000000000044,
			0xc407ff0000000260, 0x2b3406ff00001162, 0xd69f2505ff009a70, 0x8cd74c3704fb4901,
			0x72b51b233a220090, 0x9b61f384042ffc53, 0xb07f208e837adede, 0x7113953f29ca12e5,
			0x0a9ad6293aacb8e9, 0x99ca6de0de44725c, 0x60c4e5bb756c06f8, 0x7b54509d99936141,
			0x277340f6135d5e93, 0xfbeb150ab4d7d06e, 0x2cf32e48c9b88ef4, 0xd77fab88aae3e2b2,
			0x50cdce272ed41fc2, 0x23d68f80e7ed14ca, 0xe2c834789e16c4f0, 0x92851305ed0e64c3,
			0x43214f99c65f3b0d, 0x4df225bf4ff4bf58, 0xefd633e2bed43664, 0xe8e7e41521341b0d,
			0x54411a392bab68c1, 0xa05c49bae6963267, 0x0fbcd3846ee06cfb, 0xa82cae01b539d93c,
		}},
	} {
		if got := speck.Keys(x.key); !slices.Equal(got, x.want) {
			t.Errorf("Keys of %s = %#x, want %#x", x.name, got, x.want)
		}
	}
}

func TestKeysAreThirtyTwoFromTheSecondNumberOn(t *testing.T) {
	for _, key := range slices.Concat(edges(), single(), strewn(200)) {
		got := speck.Keys(key)
		if len(got) != 32 || got[0] != key[1] {
			t.Errorf("Keys(%#x) has %d numbers, the first of %#x", key, len(got), got)
		}
		if want := bookKeys(key); !slices.Equal(got, want) {
			t.Errorf("Keys(%#x) = %#x, want %#x", key, got, want)
		}
	}
}

func TestKeysOfASumBeyondTheDigits(t *testing.T) {
	// (1 >>> 8) is 2^56; with a k of all ones the sum is 2^64 + 2^56 - 1.
	got := speck.Keys(api.Pair{1, math.MaxUint64})
	l := uint64(1<<56 - 1)
	if want := uint64(math.MaxUint64) ^ l; got[1] != want {
		t.Errorf("the second number = %#x, want %#x", got[1], want)
	}
}

func TestKeysAreNewMemory(t *testing.T) {
	for _, key := range []api.Pair{exampleKey, noughts, ones} {
		first, second := speck.Keys(key), speck.Keys(key)
		want := slices.Clone(second)
		room := first[:cap(first)]
		for i := range room {
			room[i] = 0xdddddddddddddddd
		}
		if third := speck.Keys(key); !slices.Equal(second, want) || !slices.Equal(third, want) {
			t.Errorf("Keys(%#x) became %#x and %#x, want %#x", key, second, third, want)
		}
		if got := speck.Encrypt(key, exampleBlock); got != bookEncrypt(key, exampleBlock) {
			t.Errorf("Encrypt by %#x hangs on what Keys answered: %#x", key, got)
		}
	}
}

// P2.2

func TestExample(t *testing.T) {
	if got := speck.Encrypt(exampleKey, exampleBlock); got != exampleOut {
		t.Errorf("Encrypt = %#x, want %#x", got, exampleOut)
	}
	if got := speck.Decrypt(exampleKey, exampleOut); got != exampleBlock {
		t.Errorf("Decrypt = %#x, want %#x", got, exampleBlock)
	}
}

func TestKnownBlocks(t *testing.T) {
	for _, x := range known {
		key, block, encrypted, decrypted := x[0], x[1], x[2], x[3]
		if got := speck.Encrypt(key, block); got != encrypted {
			t.Errorf("Encrypt(%#x, %#x) = %#x, want %#x", key, block, got, encrypted)
		}
		if got := speck.Decrypt(key, block); got != decrypted {
			t.Errorf("Decrypt(%#x, %#x) = %#x, want %#x", key, block, got, decrypted)
		}
	}
}

func TestEncryptIsTheBooks(t *testing.T) {
	for _, key := range []api.Pair{exampleKey, noughts, ones, {1, math.MaxUint64}} {
		for _, block := range slices.Concat(edges(), single(), strewn(50)) {
			checkBook(t, key, block)
			checkBook(t, block, key)
		}
	}
}

// checkBook holds one block, forth and back, against the book.
func checkBook(t *testing.T, key, block api.Pair) {
	t.Helper()
	want := bookEncrypt(key, block)
	if got := speck.Encrypt(key, block); got != want {
		t.Errorf("Encrypt(%#x, %#x) = %#x, want %#x", key, block, got, want)
	}
	if got := speck.Decrypt(key, want); got != block {
		t.Errorf("Decrypt(%#x, %#x) = %#x, want %#x", key, want, got, block)
	}
}

// P2.3

func TestBackAndForthIsTheBlock(t *testing.T) {
	keys, blocks := strewn(60), slices.Concat(strewn(60), []api.Pair{noughts, ones})
	for _, key := range slices.Concat(keys, []api.Pair{noughts, ones}, single()) {
		for _, block := range blocks {
			if got := speck.Decrypt(key, speck.Encrypt(key, block)); got != block {
				t.Errorf("Decrypt of Encrypt(%#x, %#x) = %#x", key, block, got)
			}
			if got := speck.Encrypt(key, speck.Decrypt(key, block)); got != block {
				t.Errorf("Encrypt of Decrypt(%#x, %#x) = %#x", key, block, got)
			}
		}
	}
}

func TestAnswersHangOnTheArgumentsAlone(t *testing.T) {
	for _, x := range known {
		key, block, want := x[0], x[1], x[2]
		speck.Keys(ones)
		speck.Decrypt(block, key)
		first := speck.Encrypt(key, block)
		speck.Encrypt(noughts, ones)
		if again := speck.Encrypt(key, block); first != want || again != want {
			t.Errorf("Encrypt(%#x, %#x) = %#x, then %#x, want %#x", key, block, first, again, want)
		}
	}
}
