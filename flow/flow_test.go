package flow_test

import (
	"bytes"
	"crypto/sha256"
	"encoding/hex"
	"math"
	"slices"
	"testing"

	"lockbox/api"
	"lockbox/flow"
	"lockbox/speck"
	"lockbox/wire"
)

var (
	some  = api.Pair{0x0f0e0d0c0b0a0908, 0x0706050403020100}
	other = api.Pair{0x123456789abcdef0, 0xfedcba9876543210}
	ones  = api.Pair{math.MaxUint64, math.MaxUint64}
)

// keys has keys at both ends and without a pattern.
func keys() []api.Pair {
	return []api.Pair{{}, {0, 1}, {1, 0}, {1 << 63, 0}, ones, some, other}
}

// nonces has all Nonces of fields at their ends, at single digits, and between.
func nonces() []api.Nonce {
	small := []uint32{0, 1, 2, 255, 65535, 65536, 1 << 31, math.MaxUint32 - 1, math.MaxUint32}
	great := []uint64{0, 1, 2, 100, math.MaxUint32, 1 << 32, 1 << 63, math.MaxUint64 - 1, math.MaxUint64}
	var l []api.Nonce
	for _, epoch := range small {
		for _, slot := range small {
			for _, version := range great {
				l = append(l, api.Nonce{Epoch: epoch, Slot: slot, Version: version})
			}
		}
	}
	return l
}

// bookBytes is P4.1, word for word: pieces till there are enough, then the first n bytes.
func bookBytes(sub api.Pair, n int) []byte {
	var all []byte
	for number := uint64(1); len(all) < n; number++ {
		all = append(all, wire.Bytes(speck.Encrypt(sub, api.Pair{number, 0}))...)
	}
	return all[:n]
}

// counted is the bytes from, from + 1 .., n of them.
func counted(from byte, n int) []byte {
	b := make([]byte, n)
	for i := range b {
		b[i] = from + byte(i)
	}
	return b
}

// roomy is a copy of b with spare room behind its end, marked by 0xee.
func roomy(b []byte) []byte {
	all := append(slices.Clone(b), bytes.Repeat([]byte{0xee}, 24)...)
	return all[:len(b):len(all)]
}

// whole is b with its spare room.
func whole(b []byte) []byte { return b[:cap(b)] }

// smear overwrites b and its spare room.
func smear(b []byte) {
	for i := range whole(b) {
		whole(b)[i] = 0xdd
	}
}

// P4.1: Sub

func TestSubOfKnownNonces(t *testing.T) {
	// Worked out apart from this program.
	for _, x := range []struct {
		n    api.Nonce
		want api.Pair
	}{
		{api.Nonce{}, api.Pair{0x30d6a63d14eadec5, 0x06bb2d75b7aef13d}},
		{api.Nonce{Epoch: 1}, api.Pair{0xf52f78cdd2f13869, 0x769d8fd56b07ad2d}},
		{api.Nonce{Slot: 1}, api.Pair{0x5ccb00910e0e62b8, 0xea0f1ea5107a69e1}},
		{api.Nonce{Version: 1}, api.Pair{0xf1182e3caaedf81d, 0x0c12c80875bbe3fe}},
		{api.Nonce{Epoch: math.MaxUint32}, api.Pair{0xe918d97a3c6602ab, 0x0873b5c018523dcb}},
		{api.Nonce{Slot: math.MaxUint32}, api.Pair{0x6f8355a99f276bb6, 0xd7c0fdc8277b4610}},
		{api.Nonce{Version: math.MaxUint64}, api.Pair{0x7a31682b7c144c48, 0x1cf9b69b2d9a31e4}},
		{api.Nonce{Epoch: math.MaxUint32, Slot: math.MaxUint32, Version: math.MaxUint64}, api.Pair{0xb2064d09f63f2735, 0x20a969492e23e35d}},
		{api.Nonce{Epoch: 1, Slot: 2, Version: 3}, api.Pair{0x80381ac718eb21de, 0x8f28411b7cdf809f}},
		{api.Nonce{Epoch: 7, Slot: api.RootSlot, Version: api.MaxSeq}, api.Pair{0xb8be3e394b11978b, 0x7e3d4d60fa14cd16}},
	} {
		if got := flow.Sub(some, x.n); got != x.want {
			t.Errorf("Sub of %+v = %#x, want %#x", x.n, got, x.want)
		}
	}
}

func TestSubIsEncryptOfTheNoncesPair(t *testing.T) {
	for _, key := range keys() {
		for _, n := range nonces() {
			block := api.Pair{uint64(n.Epoch)*4294967296 + uint64(n.Slot), n.Version}
			if got, want := flow.Sub(key, n), speck.Encrypt(key, block); got != want {
				t.Errorf("Sub(%#x, %+v) = %#x, want %#x", key, n, got, want)
			}
		}
	}
}

func TestSubIsTheSameAgain(t *testing.T) {
	n := api.Nonce{Epoch: 3, Slot: 5, Version: 8}
	first := flow.Sub(some, n)
	flow.Sub(other, api.Nonce{Epoch: 9})
	flow.Bytes(first, 40)
	if again := flow.Sub(some, n); again != first {
		t.Errorf("Sub = %#x, then %#x", first, again)
	}
}

// P4.1: Bytes

func TestExample(t *testing.T) {
	for _, sub := range keys() {
		if b := flow.Bytes(sub, 0); len(b) != 0 {
			t.Errorf("Bytes(%#x, 0) = %x, want nothing", sub, b)
		}
	}
}

func TestBytesOfAKnownKey(t *testing.T) {
	// Worked out apart from this program.
	const begin = "5ccb00910e0e62b8ea0f1ea5107a69e1531c1f0c17bf99541bf0fc3ed6adea408726fcaa6875d1c3"
	const end = "c05ac1e469f4107e2f212be26e51787f"
	const sum = "7eca0364c465e1503bb278a7108a525eaf7b91c1b770482388eed7d4b7848eb7"
	if got := hex.EncodeToString(flow.Bytes(some, 40)); got != begin {
		t.Errorf("the first 40 are %s, want %s", got, begin)
	}
	b := flow.Bytes(some, api.MaxBytes)
	if len(b) != 4000 {
		t.Fatalf("Bytes of MaxBytes has %d bytes", len(b))
	}
	if got := hex.EncodeToString(b[3984:]); got != end {
		t.Errorf("the last 16 are %s, want %s", got, end)
	}
	if all := sha256.Sum256(b); hex.EncodeToString(all[:]) != sum {
		t.Errorf("of all the sum is %x, want %s", all, sum)
	}
}

func TestBytesOfEdgeLengths(t *testing.T) {
	for _, sub := range keys() {
		for _, n := range []int{0, 1, 15, 16, 17, 31, 32, 33, 255, 256, 257, 3983, 3984, 3985, api.MaxBytes - 1, api.MaxBytes} {
			if got, want := flow.Bytes(sub, n), bookBytes(sub, n); !bytes.Equal(got, want) {
				t.Errorf("Bytes(%#x, %d) = %x, want %x", sub, n, got, want)
			}
		}
	}
}

func TestBytesOfOtherLengthsIsNothing(t *testing.T) {
	for _, sub := range keys() {
		for _, n := range []int{-1, -2, -16, -4000, math.MinInt32, math.MinInt, api.MaxBytes + 1, api.MaxBytes + 16, 2 * api.MaxBytes, math.MaxInt32, math.MaxInt} {
			if b := flow.Bytes(sub, n); len(b) != 0 {
				t.Errorf("Bytes(%#x, %d) has %d bytes, want nothing", sub, n, len(b))
			}
		}
	}
}

func TestFewerAreTheBeginningOfMore(t *testing.T) {
	all := flow.Bytes(other, api.MaxBytes)
	for n := range api.MaxBytes {
		if n > 300 && n%97 != 0 {
			continue
		}
		if b := flow.Bytes(other, n); len(b) != n || !bytes.HasPrefix(all, b) {
			t.Errorf("the first %d are not the beginning of all", n)
		}
	}
}

func TestNoPieceComesTwice(t *testing.T) {
	all := flow.Bytes(some, api.MaxBytes)
	seen := map[string]int{}
	for at := 0; at < len(all); at += 16 {
		piece := string(all[at : at+16])
		if before, ok := seen[piece]; ok {
			t.Errorf("the bytes from %d on are those from %d on", at, before)
		}
		seen[piece] = at
	}
}

func TestBytesAreNewMemory(t *testing.T) {
	for _, n := range []int{0, 1, 15, 16, 17, api.MaxBytes} {
		first, second := flow.Bytes(some, n), flow.Bytes(some, n)
		smear(first)
		if want := bookBytes(some, n); !bytes.Equal(second, want) {
			t.Errorf("%d bytes share memory with an answer before", n)
		}
		if third := flow.Bytes(some, n); !bytes.Equal(third, second) {
			t.Errorf("%d bytes are kept from an answer before", n)
		}
	}
}

// P4.1: Xor

func TestXorIsByteByByteOfTheShorter(t *testing.T) {
	for _, x := range []struct{ a, b, want []byte }{
		{nil, nil, nil},
		{nil, []byte{1}, nil},
		{[]byte{}, []byte{1, 2, 3}, nil},
		{[]byte{0}, []byte{0}, []byte{0}},
		{[]byte{255}, []byte{255}, []byte{0}},
		{[]byte{255}, []byte{0}, []byte{255}},
		{[]byte{12}, []byte{10}, []byte{6}},
		{[]byte{128}, []byte{127}, []byte{255}},
		{[]byte{1, 2, 255}, []byte{3, 2, 15}, []byte{2, 0, 240}},
		{[]byte{1, 2, 255}, []byte{3, 2}, []byte{2, 0}},
		{[]byte{1, 2, 255}, []byte{3}, []byte{2}},
		{[]byte{1, 2, 3, 4, 5}, []byte{0, 0, 0, 0}, []byte{1, 2, 3, 4}},
	} {
		for _, a := range [][]byte{x.a, roomy(x.a)} {
			for _, b := range [][]byte{x.b, roomy(x.b)} {
				if got := flow.Xor(a, b); !bytes.Equal(got, x.want) {
					t.Errorf("Xor(%v, %v) = %v, want %v", a, b, got, x.want)
				}
				if got := flow.Xor(b, a); !bytes.Equal(got, x.want) {
					t.Errorf("Xor(%v, %v) = %v, want %v", b, a, got, x.want)
				}
			}
		}
	}
}

func TestXorOfAllBytes(t *testing.T) {
	row := counted(0, 256)
	for v := range 256 {
		got := flow.Xor(row, bytes.Repeat([]byte{byte(v)}, 256))
		for i := range row {
			if got[i] != byte(i^v) {
				t.Fatalf("%d and %d make %d, want %d", i, v, got[i], i^v)
			}
		}
	}
}

func TestXorOfManyLengths(t *testing.T) {
	for _, n := range []int{0, 1, 15, 16, 17, 100, api.MaxBytes, 3 * api.MaxBytes} {
		for _, m := range []int{0, 1, 15, 16, 17, 100, api.MaxBytes, 3 * api.MaxBytes} {
			a, b := counted(3, n), counted(200, m)
			got := flow.Xor(a, b)
			if len(got) != min(n, m) {
				t.Fatalf("Xor of %d and %d bytes has %d", n, m, len(got))
			}
			for i, v := range got {
				if v != a[i]^b[i] {
					t.Fatalf("Xor of %d and %d bytes has %d at %d, want %d", n, m, v, i, a[i]^b[i])
				}
			}
		}
	}
}

func TestXorLeavesItsRowsAsTheyAre(t *testing.T) {
	for _, n := range []int{0, 1, 5, 16, 40} {
		for _, m := range []int{0, 1, 5, 16, 40} {
			a, b := roomy(counted(7, n)), roomy(counted(90, m))
			wantA, wantB := slices.Clone(whole(a)), slices.Clone(whole(b))
			flow.Xor(a, b)
			if !bytes.Equal(whole(a), wantA) || !bytes.Equal(whole(b), wantB) {
				t.Errorf("Xor of %d and %d bytes changed a row, or the room behind it", n, m)
			}
		}
	}
}

func TestXorIsNewMemory(t *testing.T) {
	for _, n := range []int{0, 1, 5, 16} {
		for _, m := range []int{0, 1, 5, 16} {
			a, b := roomy(counted(7, n)), roomy(counted(90, m))
			wantA, wantB := slices.Clone(whole(a)), slices.Clone(whole(b))
			first, second := flow.Xor(a, b), flow.Xor(a, b)
			want := slices.Clone(second)
			smear(first)
			if !bytes.Equal(whole(a), wantA) || !bytes.Equal(whole(b), wantB) || !bytes.Equal(second, want) {
				t.Errorf("Xor of %d and %d bytes shares memory", n, m)
			}
			smear(a)
			smear(b)
			if !bytes.Equal(second, want) {
				t.Errorf("Xor of %d and %d bytes hangs on its rows behind the call", n, m)
			}
		}
	}
}

func TestXorOfARowAndItself(t *testing.T) {
	row := counted(1, 40)
	if got := flow.Xor(row, row); !bytes.Equal(got, make([]byte, 40)) {
		t.Errorf("Xor of a row and itself = %v, want noughts", got)
	}
	// Two pieces of one row: what is answered is of the row as it was.
	if got := flow.Xor(row[1:], row[:39]); !bytes.Equal(row, counted(1, 40)) || got[0] != 1^2 || got[38] != 39^40 {
		t.Errorf("Xor of two pieces of one row = %v", got)
	}
}

// P4.2

func TestSubsOfUnlikeNoncesAreUnlike(t *testing.T) {
	for _, key := range keys() {
		seen := map[api.Pair]api.Nonce{}
		for _, n := range nonces() {
			sub := flow.Sub(key, n)
			if before, ok := seen[sub]; ok {
				t.Errorf("by %#x, of %+v and of %+v the Sub is %#x", key, before, n, sub)
			}
			seen[sub] = n
		}
	}
}

func TestSubsOfNoncesOneDigitApartAreUnlike(t *testing.T) {
	base := api.Nonce{Epoch: 0x01020304, Slot: 0x05060708, Version: 0x090a0b0c0d0e0f10}
	seen := map[api.Pair]bool{flow.Sub(other, base): true}
	note := func(n api.Nonce) {
		sub := flow.Sub(other, n)
		if seen[sub] {
			t.Errorf("the Sub of %+v is that of another", n)
		}
		seen[sub] = true
	}
	for i := range 32 {
		n := base
		n.Epoch ^= 1 << i
		note(n)
		n = base
		n.Slot ^= 1 << i
		note(n)
	}
	for i := range 64 {
		n := base
		n.Version ^= 1 << i
		note(n)
	}
}

func TestSubsOfManyNoncesInARowAreUnlike(t *testing.T) {
	seen := map[api.Pair]bool{}
	for epoch := range uint32(8) {
		for slot := range uint32(api.MaxSlots) {
			for version := range uint64(api.MaxSeq) {
				seen[flow.Sub(some, api.Nonce{Epoch: epoch, Slot: slot, Version: version})] = true
			}
		}
	}
	if want := 8 * api.MaxSlots * api.MaxSeq; len(seen) != want {
		t.Errorf("of %d Nonces there are %d Subs", want, len(seen))
	}
}

func TestTheNonceCanBeToldFromItsSub(t *testing.T) {
	// Unlike Nonces have unlike Subs since each goes back to its own.
	for _, key := range keys() {
		for _, n := range nonces() {
			p := speck.Decrypt(key, flow.Sub(key, n))
			back := api.Nonce{Epoch: uint32(p[0] >> 32), Slot: uint32(p[0]), Version: p[1]}
			if back != n {
				t.Errorf("by %#x the Sub of %+v goes back to %+v", key, n, back)
			}
		}
	}
}

func TestXorTwiceByTheSameIsAsItWas(t *testing.T) {
	for _, n := range []int{0, 1, 15, 16, 17, 32, 1000, api.MaxBytes} {
		data := counted(byte(n), n)
		for _, by := range [][]byte{flow.Bytes(some, n), flow.Bytes(ones, api.MaxBytes), make([]byte, n), data} {
			if got := flow.Xor(flow.Xor(data, by), by); !bytes.Equal(got, data) {
				t.Errorf("%d bytes, twice by the same, are %x, want %x", n, got, data)
			}
		}
	}
	// By a shorter row only its beginning is left.
	data := counted(1, 20)
	for n := range 20 {
		by := flow.Bytes(other, n)
		if got := flow.Xor(flow.Xor(data, by), by); !bytes.Equal(got, data[:n]) {
			t.Errorf("20 bytes, twice by %d, are %x, want %x", n, got, data[:n])
		}
	}
}
