package wire_test

import (
	"bytes"
	"math"
	"slices"
	"testing"

	"lockbox/api"
	"lockbox/wire"
)

// values has numbers with every byte different, with single bits, and both ends.
func values() []uint64 {
	l := []uint64{0, 1, 255, 256, 258, 65535, 65536, 0x0102030405060708, 0xfedcba9876543210, math.MaxInt64, math.MaxUint64}
	for i := range 64 {
		l = append(l, 1<<i, 1<<i-1)
	}
	return l
}

// counted is the bytes 1, 2 .. n.
func counted(n int) []byte {
	b := make([]byte, n)
	for i := range b {
		b[i] = byte(i + 1)
	}
	return b
}

// roomy is a copy of b with spare room behind its end, marked by 0xee.
func roomy(b []byte) []byte {
	all := append(slices.Clone(b), bytes.Repeat([]byte{0xee}, 24)...)
	return all[:len(b):len(all)]
}

// whole is b with its spare room.
func whole(b []byte) []byte { return b[:cap(b)] }

// smear overwrites b and its spare room.
func smear(b []byte) {
	for i := range whole(b) {
		whole(b)[i] = 0xdd
	}
}

// P1.1

func TestPutIsTheLowestBytesHighestFirst(t *testing.T) {
	for _, x := range []struct {
		v    uint64
		n    int
		want []byte
	}{
		{258, 3, []byte{0, 1, 2}},
		{258, 2, []byte{1, 2}},
		{258, 1, []byte{2}},
		{0, 1, []byte{0}},
		{0, 8, []byte{0, 0, 0, 0, 0, 0, 0, 0}},
		{0x0102030405060708, 1, []byte{8}},
		{0x0102030405060708, 2, []byte{7, 8}},
		{0x0102030405060708, 3, []byte{6, 7, 8}},
		{0x0102030405060708, 4, []byte{5, 6, 7, 8}},
		{0x0102030405060708, 5, []byte{4, 5, 6, 7, 8}},
		{0x0102030405060708, 6, []byte{3, 4, 5, 6, 7, 8}},
		{0x0102030405060708, 7, []byte{2, 3, 4, 5, 6, 7, 8}},
		{0x0102030405060708, 8, []byte{1, 2, 3, 4, 5, 6, 7, 8}},
		{math.MaxUint64, 1, []byte{255}},
		{math.MaxUint64, 8, []byte{255, 255, 255, 255, 255, 255, 255, 255}},
		{1 << 63, 8, []byte{128, 0, 0, 0, 0, 0, 0, 0}},
		{1 << 63, 7, []byte{0, 0, 0, 0, 0, 0, 0}},
	} {
		if b := wire.Put(x.v, x.n); !bytes.Equal(b, x.want) {
			t.Errorf("Put(%#x, %d) = %v, want %v", x.v, x.n, b, x.want)
		}
	}
}

func TestPutOfOtherSizesIsNothing(t *testing.T) {
	for _, n := range []int{0, 9, 10, 16, 64, math.MaxInt, -1, -8, math.MinInt} {
		for _, v := range values() {
			if b := wire.Put(v, n); len(b) != 0 {
				t.Errorf("Put(%#x, %d) = %v, want nothing", v, n, b)
			}
		}
	}
}

func TestGetIsTheNumberHighestFirst(t *testing.T) {
	for _, x := range []struct {
		b    []byte
		want uint64
	}{
		{[]byte{0}, 0},
		{[]byte{7}, 7},
		{[]byte{255}, 255},
		{[]byte{1, 2}, 258},
		{[]byte{0, 1, 2}, 258},
		{[]byte{1, 2, 3, 4}, 0x01020304},
		{[]byte{1, 2, 3, 4, 5, 6, 7}, 0x01020304050607},
		{[]byte{1, 2, 3, 4, 5, 6, 7, 8}, 0x0102030405060708},
		{[]byte{0, 0, 0, 0, 0, 0, 0, 9}, 9},
		{[]byte{128, 0, 0, 0, 0, 0, 0, 0}, 1 << 63},
		{[]byte{255, 255, 255, 255, 255, 255, 255, 255}, math.MaxUint64},
	} {
		if v, ok := wire.Get(x.b); !ok || v != x.want {
			t.Errorf("Get(%v) = %#x, %v, want %#x, true", x.b, v, ok, x.want)
		}
	}
}

func TestGetOfOtherSizesIsNothing(t *testing.T) {
	for _, b := range [][]byte{nil, {}, roomy(nil), counted(9), make([]byte, 9), counted(16), counted(255)} {
		if v, ok := wire.Get(b); ok || v != 0 {
			t.Errorf("Get of %d bytes = %#x, %v, want 0, false", len(b), v, ok)
		}
	}
}

func TestGetReadsNoSpareRoom(t *testing.T) {
	for n := 1; n <= 8; n++ {
		v, ok := wire.Get(roomy(counted(n)))
		if want, _ := wire.Get(counted(n)); !ok || v != want {
			t.Errorf("Get of %d bytes with spare room = %#x, %v, want %#x", n, v, ok, want)
		}
	}
}

func TestPairIsJustSixteenBytes(t *testing.T) {
	want := api.Pair{0x0102030405060708, 0x090a0b0c0d0e0f10}
	for _, b := range [][]byte{counted(16), roomy(counted(16))} {
		if p, ok := wire.Pair(b); !ok || p != want {
			t.Errorf("Pair(%v) = %#x, %v, want %#x, true", b, p, ok, want)
		}
	}
	for _, b := range [][]byte{nil, {}, counted(1), counted(8), counted(15), counted(17), counted(32), roomy(counted(15))} {
		if p, ok := wire.Pair(b); ok || p != (api.Pair{}) {
			t.Errorf("Pair of %d bytes = %#x, %v, want nothing, false", len(b), p, ok)
		}
	}
}

func TestBytesIsBackOfPair(t *testing.T) {
	if b := wire.Bytes(api.Pair{0x0102030405060708, 0x090a0b0c0d0e0f10}); !bytes.Equal(b, counted(16)) {
		t.Errorf("Bytes = %v, want %v", b, counted(16))
	}
	if b := wire.Bytes(api.Pair{}); !bytes.Equal(b, make([]byte, 16)) {
		t.Errorf("Bytes of noughts = %v", b)
	}
	for _, high := range values() {
		for _, low := range values() {
			p := api.Pair{high, low}
			if q, ok := wire.Pair(wire.Bytes(p)); !ok || q != p {
				t.Errorf("Pair of Bytes(%#x) = %#x, %v", p, q, ok)
			}
		}
	}
}

// P1.2

func TestCutIsRowsOneBehindTheOther(t *testing.T) {
	for _, x := range []struct {
		b     string
		sizes []int
		want  []string
	}{
		{"abcdef", []int{1, 2, 3}, []string{"a", "bc", "def"}},
		{"abcdef", []int{3, 2, 1}, []string{"abc", "de", "f"}},
		{"abcdef", []int{6}, []string{"abcdef"}},
		{"abc", []int{1, 1, 1}, []string{"a", "b", "c"}},
		{"abc", []int{0, 3, 0}, []string{"", "abc", ""}},
		{"abc", []int{1, 0, 0, 2}, []string{"a", "", "", "bc"}},
		{"", nil, nil},
		{"", []int{}, nil},
		{"", []int{0}, []string{""}},
		{"", []int{0, 0, 0}, []string{"", "", ""}},
	} {
		for _, b := range [][]byte{[]byte(x.b), roomy([]byte(x.b))} {
			rows, ok := wire.Cut(b, x.sizes...)
			if got := texts(rows); !ok || !slices.Equal(got, x.want) {
				t.Errorf("Cut(%q, %v) = %q, %v, want %q, true", x.b, x.sizes, got, ok, x.want)
			}
		}
	}
	if rows, ok := wire.Cut(nil); !ok || len(rows) != 0 {
		t.Errorf("Cut of nil = %v, %v, want no row, true", rows, ok)
	}
	if rows, ok := wire.Cut(nil, 0); !ok || len(rows) != 1 || len(rows[0]) != 0 {
		t.Errorf("Cut(nil, 0) = %v, %v, want one empty row, true", rows, ok)
	}
}

// texts is rows as strings.
func texts(rows [][]byte) []string {
	var l []string
	for _, row := range rows {
		l = append(l, string(row))
	}
	return l
}

func TestCutOfOtherSizesIsNothing(t *testing.T) {
	for _, x := range []struct {
		name  string
		b     string
		sizes []int
	}{
		{"none, of some bytes", "a", nil},
		{"fewer", "abc", []int{1, 1}},
		{"fewer, by one row", "abc", []int{2}},
		{"fewer, by noughts", "abc", []int{0, 0}},
		{"more", "abc", []int{1, 3}},
		{"more, by the last", "abc", []int{3, 1}},
		{"more, of no byte", "", []int{1}},
		{"below 0", "abc", []int{-1}},
		{"below 0, of no byte", "", []int{-1}},
		{"below 0 first, the sum fits", "abc", []int{-1, 4}},
		{"below 0 last, the sum fits", "abc", []int{4, -1}},
		{"below 0 between, the sum fits", "abc", []int{2, -1, 2}},
		{"below 0 behind all bytes", "abc", []int{3, -1, 1}},
		{"below 0, of no byte, the sum fits", "", []int{1, -1}},
		{"the lowest int", "abc", []int{math.MinInt}},
		{"below 0, wraps to fit", "abc", []int{math.MinInt, math.MinInt, 3}},
		{"the greatest int", "abc", []int{math.MaxInt}},
		{"wraps to fit", "abc", []int{math.MaxInt, math.MaxInt, 5}},
		{"wraps to fit, behind all bytes", "abc", []int{3, math.MaxInt, math.MaxInt, 2}},
		{"wraps to fit, by four", "abc", []int{math.MaxInt/2 + 1, math.MaxInt/2 + 1, math.MaxInt/2 + 1, math.MaxInt/2 + 1, 3}},
		{"wraps to 0", "", []int{math.MaxInt, math.MaxInt, 2}},
		{"wraps below 0", "abc", []int{1, math.MaxInt}},
	} {
		for _, b := range [][]byte{[]byte(x.b), roomy([]byte(x.b))} {
			if rows, ok := wire.Cut(b, x.sizes...); ok || rows != nil {
				t.Errorf("%s: Cut(%q, %v) = %q, %v, want nil, false", x.name, x.b, x.sizes, rows, ok)
			}
		}
	}
}

// P1.3

func TestGetOfPutIsTheNumber(t *testing.T) {
	for _, v := range values() {
		for n := 1; n <= 8; n++ {
			want := v << (64 - 8*n) >> (64 - 8*n)
			b := wire.Put(v, n)
			if got, ok := wire.Get(b); len(b) != n || !ok || got != want {
				t.Errorf("Get of Put(%#x, %d) = %#x, %v, want %#x, true", v, n, got, ok, want)
			}
		}
	}
}

func TestWhatIsHandedInIsNotChanged(t *testing.T) {
	for n := range 20 {
		b := roomy(counted(n))
		was := slices.Clone(whole(b))
		all := []int{n / 2, n - n/2, 77, 78}
		sizes, sizesWere := all[:2], slices.Clone(all)
		wire.Get(b)
		wire.Pair(b)
		wire.Cut(b)
		wire.Cut(b, n+1)
		wire.Cut(b, sizes...)
		if !bytes.Equal(whole(b), was) {
			t.Errorf("%d bytes became %v, were %v", n, whole(b), was)
		}
		if !slices.Equal(all, sizesWere) {
			t.Errorf("sizes became %v, were %v", all, sizesWere)
		}
	}
}

func TestCutRowsAreNewMemory(t *testing.T) {
	in := roomy([]byte("abcdef"))
	was := slices.Clone(whole(in))
	want := []string{"ab", "", "c", "def"}
	for i := range want {
		rows, _ := wire.Cut(in, 2, 0, 1, 3)
		smear(rows[i])
		if !bytes.Equal(whole(in), was) {
			t.Fatalf("row %d shares memory with what was handed in: %v", i, whole(in))
		}
		for j := range want {
			if j != i && string(rows[j]) != want[j] {
				t.Errorf("row %d shares memory with row %d: %q", i, j, rows[j])
			}
		}
	}
}

func TestCutRowsCanGrowApart(t *testing.T) {
	rows, _ := wire.Cut([]byte("abcdef"), 2, 1, 3)
	grown := make([][]byte, len(rows))
	for i := range rows {
		grown[i] = append(rows[i], 'x', 'y')
	}
	if got := texts(grown); !slices.Equal(got, []string{"abxy", "cxy", "defxy"}) {
		t.Errorf("rows with two bytes more = %q", got)
	}
	if got := texts(rows); !slices.Equal(got, []string{"ab", "c", "def"}) {
		t.Errorf("rows = %q", got)
	}
}

func TestCutKeepsNothingHandedIn(t *testing.T) {
	in, sizes := []byte("abcdef"), []int{1, 2, 3}
	rows, _ := wire.Cut(in, sizes...)
	smear(in)
	clear(sizes)
	if got := texts(rows); !slices.Equal(got, []string{"a", "bc", "def"}) {
		t.Errorf("rows became %q", got)
	}
}

func TestAnswersShareNothingWithEachOther(t *testing.T) {
	for n := 1; n <= 8; n++ {
		first := wire.Put(0x0102030405060708, n)
		second := wire.Put(0x0102030405060708, n)
		want := slices.Clone(second)
		smear(first)
		third := wire.Put(0x0102030405060708, n)
		if !bytes.Equal(second, want) || !bytes.Equal(third, want) {
			t.Errorf("Put of %d bytes: %v, %v, want %v", n, second, third, want)
		}
	}
	p := api.Pair{0x0102030405060708, 0x090a0b0c0d0e0f10}
	first, second := wire.Bytes(p), wire.Bytes(p)
	smear(first)
	if third := wire.Bytes(p); !bytes.Equal(second, counted(16)) || !bytes.Equal(third, counted(16)) {
		t.Errorf("Bytes: %v, %v, want %v", second, third, counted(16))
	}
	in := []byte("abc")
	rows, _ := wire.Cut(in, 1, 2)
	others, _ := wire.Cut(in, 1, 2)
	for i := range rows {
		smear(rows[i])
		rows[i] = nil
	}
	if got := texts(others); !slices.Equal(got, []string{"a", "bc"}) {
		t.Errorf("Cut: %q", got)
	}
}
