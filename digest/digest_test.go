package digest_test

import (
	"bytes"
	"encoding/binary"
	"math"
	"slices"
	"testing"

	"lockbox/api"
	"lockbox/digest"
	"lockbox/speck"
)

var (
	start = api.Pair{0x6a09e667f3bcc908, 0xbb67ae8584caa73b}
	some  = api.Pair{0x0f0e0d0c0b0a0908, 0x0706050403020100}
	other = api.Pair{0x123456789abcdef0, 0xfedcba9876543210}
	ones  = api.Pair{math.MaxUint64, math.MaxUint64}
)

// pairs has Pairs at both ends and without a pattern.
func pairs() []api.Pair {
	return []api.Pair{{}, {0, 1}, {1, 0}, {0, math.MaxUint64}, {math.MaxUint64, 0}, {1 << 63, 1 << 63}, ones, some, other, start}
}

// lengths has those around the edges of one, two and more pieces, and some more.
func lengths() []int {
	return []int{0, 1, 2, 6, 7, 8, 9, 14, 15, 16, 17, 22, 23, 24, 25, 31, 32, 33, 39, 40, 41, 100, 255, 256, 257, 1000}
}

// counted is the bytes from, from + 1 .., n of them.
func counted(from byte, n int) []byte {
	b := make([]byte, n)
	for i := range b {
		b[i] = from + byte(i)
	}
	return b
}

// roomy is a copy of b with spare room behind its end, marked by 0xee.
func roomy(b []byte) []byte {
	all := append(slices.Clone(b), bytes.Repeat([]byte{0xee}, 40)...)
	return all[:len(b):len(all)]
}

// whole is b with its spare room.
func whole(b []byte) []byte { return b[:cap(b)] }

// bookStep is P6.1's Step, word for word.
func bookStep(s, m api.Pair) api.Pair {
	e := speck.Encrypt(m, s)
	return api.Pair{e[0] ^ s[0], e[1] ^ s[1]}
}

// bookSum is P6.1's Sum of bytes in one row, word for word.
func bookSum(b []byte) api.Pair {
	all := append(slices.Clone(b), 0x80)
	for (len(all)+8)%16 != 0 {
		all = append(all, 0)
	}
	all = binary.BigEndian.AppendUint64(all, uint64(len(b)))
	s := start
	for ; len(all) > 0; all = all[16:] {
		s = bookStep(s, api.Pair{binary.BigEndian.Uint64(all), binary.BigEndian.Uint64(all[8:])})
	}
	return s
}

// mustSum wants this Pair of these rows.
func mustSum(t *testing.T, what string, want api.Pair, rows ...[]byte) {
	t.Helper()
	if got := digest.Sum(rows...); got != want {
		t.Errorf("%s: Sum = %#x, want %#x", what, got, want)
	}
}

// P6.1: Step

func TestStepOfKnownPairs(t *testing.T) {
	// Worked out apart from this program.
	for _, x := range []struct{ s, m, want api.Pair }{
		{api.Pair{}, api.Pair{}, api.Pair{0x665c02fddcf38d76, 0x208ed74c037f0a6d}},
		{api.Pair{}, ones, api.Pair{0x90e6cad792658508, 0x0e82f2e31fe7b7b6}},
		{ones, api.Pair{}, api.Pair{0x9ec8d2ae95d1faa0, 0xdc70024c70fff7e5}},
		{ones, ones, api.Pair{0xc0ca17704567a14c, 0x72c46299238b2c95}},
		{some, other, api.Pair{0x2f83398b0a036d0d, 0x9f5de65b8ea49218}},
		{other, some, api.Pair{0x3d99c01e3f8596e8, 0x93927acf62114638}},
		{api.Pair{}, api.Pair{0, 1}, api.Pair{0x53a74e35dd73c751, 0xb4094e6431caa87d}},
		{api.Pair{}, api.Pair{1, 0}, api.Pair{0xe56a55a01c91c706, 0x10062e0eaf5c7bfe}},
	} {
		if got := digest.Step(x.s, x.m); got != x.want {
			t.Errorf("Step(%#x, %#x) = %#x, want %#x", x.s, x.m, got, x.want)
		}
	}
}

func TestStepOfTheChapterTwoExample(t *testing.T) {
	m := api.Pair{0x0f0e0d0c0b0a0908, 0x0706050403020100}
	s := api.Pair{0x6c61766975716520, 0x7469206564616d20}
	want := api.Pair{0xa65d985179783265 ^ s[0], 0x7860fedf5c570d18 ^ s[1]}
	if got := digest.Step(s, m); got != want {
		t.Errorf("Step(%#x, %#x) = %#x, want %#x", s, m, got, want)
	}
}

func TestStepIsEncryptXorItself(t *testing.T) {
	for _, s := range pairs() {
		for _, m := range pairs() {
			got := digest.Step(s, m)
			if want := bookStep(s, m); got != want {
				t.Errorf("Step(%#x, %#x) = %#x, want %#x", s, m, got, want)
			}
			if back := speck.Decrypt(m, api.Pair{got[0] ^ s[0], got[1] ^ s[1]}); back != s {
				t.Errorf("Step(%#x, %#x), less s, is decrypted to %#x", s, m, back)
			}
		}
	}
}

func TestStepOfEachDigit(t *testing.T) {
	for i := range 128 {
		var one api.Pair
		one[i/64] = 1 << (i % 64)
		for _, p := range pairs() {
			if got, want := digest.Step(one, p), bookStep(one, p); got != want {
				t.Errorf("Step(%#x, %#x) = %#x, want %#x", one, p, got, want)
			}
			if got, want := digest.Step(p, one), bookStep(p, one); got != want {
				t.Errorf("Step(%#x, %#x) = %#x, want %#x", p, one, got, want)
			}
		}
	}
}

func TestStepIsTheSameAgain(t *testing.T) {
	first := digest.Step(some, other)
	digest.Step(other, some)
	digest.Sum(counted(1, 40))
	if again := digest.Step(some, other); again != first {
		t.Errorf("Step = %#x, then %#x", first, again)
	}
}

// P6.1: Sum

func TestExample(t *testing.T) {
	want := digest.Step(start, api.Pair{0x80 << 56, 0})
	mustSum(t, "no row", want)
	for _, none := range [][]byte{nil, {}, roomy(nil)} {
		mustSum(t, "a row of no bytes", want, none)
		mustSum(t, "rows of no bytes", want, none, nil, []byte{}, none)
	}
	var rows [][]byte
	mustSum(t, "a nil list of rows", want, rows...)
	mustSum(t, "an empty list of rows", want, [][]byte{}...)
	mustSum(t, "many rows of no bytes", want, make([][]byte, 1000)...)
}

func TestSumOfKnownRows(t *testing.T) {
	// Worked out apart from this program.
	for _, x := range []struct {
		n    int
		want api.Pair
	}{
		{0, api.Pair{0x35ce6fbd42e672a9, 0x46af506f5b2b640d}},
		{1, api.Pair{0xa81d5d5f75025916, 0x7210ad48e391cbb8}},
		{2, api.Pair{0xe894fe810c0d8c8e, 0xe0446b6d782186db}},
		{7, api.Pair{0x769eb4dba5bc1d02, 0x7dc525b1b0d0d216}},
		{8, api.Pair{0x19aa96021c3db9b2, 0x56b7ede9af2d0e8a}},
		{9, api.Pair{0x849a60bced70050c, 0x2a6f2a39a097a906}},
		{15, api.Pair{0xf2c439f65ee312ea, 0x10cce3e2cd6c0e26}},
		{16, api.Pair{0x47bde51c2d85aac2, 0x34b0273b2fc47495}},
		{17, api.Pair{0x6e2e0f47d07b37ee, 0x0ae03302a742574c}},
		{23, api.Pair{0x163b885761243ac2, 0x0fef089d89486171}},
		{24, api.Pair{0x5358f712779e4325, 0x75d0c2ab83ed2ca0}},
		{25, api.Pair{0x355b195f2d696c28, 0xb60f009e30be6d15}},
		{31, api.Pair{0xd450af2328d33d98, 0x754b96a9297620ec}},
		{32, api.Pair{0xe1ba9d796a4ebe69, 0x8b046a989b9b4092}},
		{33, api.Pair{0xbc43ae1944b4e719, 0xe88536666ae833d1}},
		{40, api.Pair{0xe03aac1b01daefa8, 0x0ecf817223b85dc4}},
		{100, api.Pair{0xb85a4b5c1dc29327, 0xed5f0e3dc092332e}},
		{255, api.Pair{0xe65c06af073c64cd, 0xd2c4b3b38a4bf6ac}},
		{256, api.Pair{0xc11b74156eab2794, 0xbc45f0e63d4e037b}},
		{257, api.Pair{0xca6f2081df0ac22d, 0xe9765b0a2facfc78}},
		{4000, api.Pair{0x1b0ad71865acf73f, 0x0328d174695dae67}},
		{70000, api.Pair{0xdbe6490eea403ca0, 0xdf755e6ab0ac8d11}},
	} {
		if got := digest.Sum(counted(1, x.n)); got != x.want {
			t.Errorf("Sum of %d bytes = %#x, want %#x", x.n, got, x.want)
		}
	}
}

func TestSumOfPairsWrittenOut(t *testing.T) {
	row := counted(1, 25)
	first := api.Pair{0x0102030405060708, 0x090a0b0c0d0e0f10}
	for _, x := range []struct {
		n     int
		pairs []api.Pair
	}{
		{0, []api.Pair{{0x80 << 56, 0}}},
		{1, []api.Pair{{0x0180 << 48, 1}}},
		{7, []api.Pair{{0x0102030405060780, 7}}},
		{8, []api.Pair{{first[0], 0x80 << 56}, {0, 8}}},
		{9, []api.Pair{{first[0], 0x0980 << 48}, {0, 9}}},
		{15, []api.Pair{{first[0], 0x090a0b0c0d0e0f80}, {0, 15}}},
		{16, []api.Pair{first, {0x80 << 56, 16}}},
		{17, []api.Pair{first, {0x1180 << 48, 17}}},
		{23, []api.Pair{first, {0x1112131415161780, 23}}},
		{24, []api.Pair{first, {0x1112131415161718, 0x80 << 56}, {0, 24}}},
		{25, []api.Pair{first, {0x1112131415161718, 0x1980 << 48}, {0, 25}}},
	} {
		want := start
		for _, m := range x.pairs {
			want = bookStep(want, m)
		}
		if got := digest.Sum(row[:x.n]); got != want {
			t.Errorf("Sum of %d bytes = %#x, want %#x", x.n, got, want)
		}
	}
}

func TestSumOfEveryLength(t *testing.T) {
	for n := range 300 {
		for _, b := range [][]byte{make([]byte, n), bytes.Repeat([]byte{0xff}, n), bytes.Repeat([]byte{0x80}, n), counted(byte(n), n)} {
			want := bookSum(b)
			if got := digest.Sum(b); got != want {
				t.Errorf("Sum of %d bytes = %#x, want %#x", n, got, want)
			}
			if got := digest.Sum(roomy(b)); got != want {
				t.Errorf("Sum of %d bytes hangs on the room behind them", n)
			}
		}
	}
}

func TestSumOfLongRows(t *testing.T) {
	// Counts of more than one and two bytes; no bound of MaxBytes here.
	for _, n := range []int{api.MaxBytes - 1, api.MaxBytes, api.MaxBytes + 1, 1<<16 - 1, 1 << 16, 1<<16 + 1, 1 << 20} {
		b := counted(3, n)
		want := bookSum(b)
		if got := digest.Sum(b); got != want {
			t.Errorf("Sum of %d bytes = %#x, want %#x", n, got, want)
		}
		if got := digest.Sum(b[:n/3], b[n/3:]); got != want {
			t.Errorf("Sum of %d bytes in two rows = %#x, want %#x", n, got, want)
		}
	}
}

func TestSumOfWhatLooksFilledUp(t *testing.T) {
	// Bytes that are already as others are once they are filled up.
	for _, n := range lengths() {
		b := append(counted(1, n), 0x80)
		for range 18 {
			mustSum(t, "a mark of its own", bookSum(b), b)
			b = append(b, 0)
		}
		b = binary.BigEndian.AppendUint64(b, uint64(n))
		mustSum(t, "a count of its own", bookSum(b), b)
	}
}

// P6.2

func TestSumOfOneRowCutAnywhere(t *testing.T) {
	for _, n := range lengths() {
		b := counted(7, n)
		want := bookSum(b)
		for i := range n + 1 {
			if got := digest.Sum(b[:i], b[i:]); got != want {
				t.Errorf("Sum of %d bytes, cut at %d, = %#x, want %#x", n, i, got, want)
			}
			if got := digest.Sum(nil, b[:i], []byte{}, b[i:], nil); got != want {
				t.Errorf("Sum of %d bytes, cut at %d, hangs on rows of no bytes", n, i)
			}
			if got := digest.Sum(roomy(b[:i]), roomy(b[i:])); got != want {
				t.Errorf("Sum of %d bytes, cut at %d, hangs on the room behind the rows", n, i)
			}
		}
	}
}

func TestSumOfOneRowCutTwice(t *testing.T) {
	for _, n := range []int{7, 8, 16, 25, 40} {
		b := counted(9, n)
		want := bookSum(b)
		for i := range n + 1 {
			for j := i; j <= n; j++ {
				if got := digest.Sum(b[:i], b[i:j], b[j:]); got != want {
					t.Errorf("Sum of %d bytes, cut at %d and %d, = %#x, want %#x", n, i, j, got, want)
				}
			}
		}
	}
}

func TestSumOfRowsOfOneSize(t *testing.T) {
	for _, n := range lengths() {
		b := counted(11, n)
		want := bookSum(b)
		for _, size := range []int{1, 2, 3, 7, 8, 9, 15, 16, 17} {
			mustSum(t, "rows of one size", want, slices.Collect(slices.Chunk(b, size))...)
		}
	}
}

func TestSumOfRowsInTheirOrder(t *testing.T) {
	a, b, c := counted(1, 5), counted(50, 16), counted(100, 11)
	mustSum(t, "a b c", bookSum(slices.Concat(a, b, c)), a, b, c)
	mustSum(t, "c b a", bookSum(slices.Concat(c, b, a)), c, b, a)
	mustSum(t, "a a a", bookSum(slices.Concat(a, a, a)), a, a, a)
	mustSum(t, "pieces that overlap", bookSum(slices.Concat(b[:9], b[3:], b[2:4])), b[:9], b[3:], b[2:4])
}

// What holds everywhere.

func TestWhatIsHandedInIsAsItWas(t *testing.T) {
	for _, n := range lengths() {
		for _, m := range lengths() {
			a, b := roomy(counted(1, n)), roomy(counted(101, m))
			wantA, wantB := slices.Clone(whole(a)), slices.Clone(whole(b))
			digest.Sum(a)
			digest.Sum(a, b)
			digest.Sum(a, nil, b)
			if !bytes.Equal(whole(a), wantA) || !bytes.Equal(whole(b), wantB) {
				t.Errorf("rows of %d and %d: a row, or the room behind it, is changed", n, m)
			}
		}
	}
}

func TestTheListOfRowsIsAsItWas(t *testing.T) {
	a, b, behind := counted(1, 20), counted(50, 9), counted(90, 3)
	all := [][]byte{a, nil, b, behind}
	rows := all[:3:4]
	digest.Sum(rows...)
	for i, want := range [][]byte{a, nil, b, behind} {
		if len(all[i]) != len(want) || len(want) > 0 && &all[i][0] != &want[0] {
			t.Errorf("row %d of the list is another", i)
		}
	}
}

func TestPiecesOfOneRowStayApart(t *testing.T) {
	// The room behind the first piece is the second one.
	row := counted(1, 60)
	mustSum(t, "the first piece", bookSum(counted(1, 20)), row[:20])
	mustSum(t, "both pieces", bookSum(counted(1, 60)), row[:20], row[20:])
	if !bytes.Equal(row, counted(1, 60)) {
		t.Error("a piece's room is written")
	}
}

func TestSumIsNotKeptFromTheRow(t *testing.T) {
	row := counted(1, 40)
	first := digest.Sum(row)
	row[0] ^= 1
	mustSum(t, "the row turned", bookSum(row), row)
	row[0] ^= 1
	mustSum(t, "the row again", first, row)
}

func TestSumIsTheSameAgain(t *testing.T) {
	first := digest.Sum(counted(1, 20), counted(50, 30))
	digest.Sum(counted(9, 100))
	digest.Sum()
	digest.Step(some, other)
	mustSum(t, "again", first, counted(1, 20), counted(50, 30))
}
