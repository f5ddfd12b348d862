package gcm_test

import (
	"bytes"
	"crypto/sha256"
	"encoding/binary"
	"encoding/hex"
	"math"
	"slices"
	"testing"

	"lockbox/api"
	"lockbox/field"
	"lockbox/flow"
	"lockbox/gcm"
	"lockbox/speck"
)

var (
	some  = api.Pair{0x0f0e0d0c0b0a0908, 0x0706050403020100}
	other = api.Pair{0x123456789abcdef0, 0xfedcba9876543210}
	ones  = api.Pair{math.MaxUint64, math.MaxUint64}
	once  = api.Nonce{Epoch: 1, Slot: 2, Version: 3}
)

// keys has keys at both ends and without a pattern.
func keys() []api.Pair {
	return []api.Pair{{}, {0, 1}, {1, 0}, ones, some, other}
}

// nonces has Nonces at both ends and between.
func nonces() []api.Nonce {
	return []api.Nonce{
		{},
		once,
		{Epoch: 7, Slot: api.RootSlot, Version: api.MaxSeq},
		{Epoch: math.MaxUint32, Slot: math.MaxUint32, Version: math.MaxUint64},
	}
}

// lengths has those around one and two Pairs, and some more.
func lengths() []int {
	return []int{0, 1, 2, 7, 8, 9, 15, 16, 17, 31, 32, 33, 40, 100}
}

// counted is the bytes from, from + 1 .., n of them.
func counted(from byte, n int) []byte {
	b := make([]byte, n)
	for i := range b {
		b[i] = from + byte(i)
	}
	return b
}

// roomy is a copy of b with spare room behind its end, marked by 0xee.
func roomy(b []byte) []byte {
	all := append(slices.Clone(b), bytes.Repeat([]byte{0xee}, 24)...)
	return all[:len(b):len(all)]
}

// whole is b with its spare room.
func whole(b []byte) []byte { return b[:cap(b)] }

// smear overwrites b and its spare room.
func smear(b []byte) {
	for i := range whole(b) {
		whole(b)[i] = 0xdd
	}
}

// bookPairs is a row filled up with noughts first, then read 16 by 16.
func bookPairs(b []byte) []api.Pair {
	filled := slices.Clone(b)
	for len(filled)%16 != 0 {
		filled = append(filled, 0)
	}
	var l []api.Pair
	for ; len(filled) > 0; filled = filled[16:] {
		l = append(l, api.Pair{binary.BigEndian.Uint64(filled), binary.BigEndian.Uint64(filled[8:])})
	}
	return l
}

// bookTag is P5.1, word for word.
func bookTag(sub api.Pair, head, b []byte) api.Pair {
	h := speck.Encrypt(sub, api.Pair{0, 1})
	l := slices.Concat(bookPairs(head), bookPairs(b), []api.Pair{{uint64(len(head)), uint64(len(b))}})
	return field.Add(field.Eval(h, l), speck.Encrypt(sub, api.Pair{0, 0}))
}

// bookSeal is P5.2, word for word, of what may be sealed.
func bookSeal(key api.Pair, n api.Nonce, head, data []byte) api.Sealed {
	sub := flow.Sub(key, n)
	hidden := flow.Xor(data, flow.Bytes(sub, len(data)))
	return api.Sealed{Bytes: hidden, Tag: bookTag(sub, head, hidden)}
}

// same says whether both have the same bytes and the same tag.
func same(a, b api.Sealed) bool { return bytes.Equal(a.Bytes, b.Bytes) && a.Tag == b.Tag }

// sealed is what Seal makes of what may be sealed.
func sealed(t *testing.T, key api.Pair, n api.Nonce, head, data []byte) api.Sealed {
	t.Helper()
	s, ok := gcm.Seal(key, n, head, data)
	if !ok {
		t.Fatalf("Seal of a head of %d and data of %d bytes is refused", len(head), len(data))
	}
	return s
}

// mustOpen wants just this data.
func mustOpen(t *testing.T, key api.Pair, n api.Nonce, head []byte, s api.Sealed, data []byte) {
	t.Helper()
	if b, ok := gcm.Open(key, n, head, s); !ok || !bytes.Equal(b, data) {
		t.Errorf("Open of a head of %d and %d bytes = %x, %v, want %x, true", len(head), len(s.Bytes), b, ok, data)
	}
}

// mustNotOpen wants nil, false.
func mustNotOpen(t *testing.T, what string, key api.Pair, n api.Nonce, head []byte, s api.Sealed) {
	t.Helper()
	if b, ok := gcm.Open(key, n, head, s); ok || b != nil {
		t.Errorf("%s: Open of a head of %d and %d bytes = %x, %v, want nil, false", what, len(head), len(s.Bytes), b, ok)
	}
}

// P5.1

func TestTagOfKnownRows(t *testing.T) {
	// Worked out apart from this program.
	for _, x := range []struct {
		head, b int
		want    api.Pair
	}{
		{0, 0, api.Pair{0x30d6a63d14eadec5, 0x06bb2d75b7aef13d}},
		{1, 0, api.Pair{0x1bfc9ba10191ed34, 0x930329fab429b964}},
		{0, 1, api.Pair{0x53367c5075eaa4b0, 0x9adf624825fb7302}},
		{1, 1, api.Pair{0x7e8c827bc1ec0ece, 0x18b00fa9bc0760ec}},
		{15, 0, api.Pair{0x20c999010305b9e7, 0x33c152b23b036aa3}},
		{0, 15, api.Pair{0xb4e64bf681d9f020, 0xdcdda617fcfe4e5c}},
		{16, 0, api.Pair{0x18755d9ac3ac1a23, 0x723190ba0c1d631c}},
		{0, 16, api.Pair{0x67d4f944cbc351bd, 0xb9840766bc33d70b}},
		{17, 0, api.Pair{0x59db45eeec70ee57, 0x581f62234c289388}},
		{0, 17, api.Pair{0xd84989c780965474, 0x303f549b2e68565f}},
		{15, 17, api.Pair{0xa59a5f4f817600ff, 0xb257b231d1e39d95}},
		{16, 16, api.Pair{0x567c7e4d2a2f5582, 0x9ce54a6d5b981449}},
		{17, 15, api.Pair{0xc8ac245cfd83adf5, 0xd900031a2fc53535}},
		{32, 33, api.Pair{0x4b846a2aa0bd1927, 0x98d030fbea1eb1f1}},
		{40, 3, api.Pair{0x1a50d11eceb151f8, 0x0dd91958736a9db0}},
		{4000, 0, api.Pair{0xc09721676f622780, 0xcf2cc7a0b21477b6}},
		{0, 4000, api.Pair{0x1cc7aa8631e64d33, 0x11d23e7f31245b60}},
		{4000, 4000, api.Pair{0xdb68a458f272c029, 0xc6626df783c0e5df}},
		// Tag itself has no bound.
		{4001, 5000, api.Pair{0x58490de06fcfa00d, 0x884afacd17ec3ff6}},
	} {
		if got := gcm.Tag(some, counted(1, x.head), counted(101, x.b)); got != x.want {
			t.Errorf("Tag of a head of %d and %d bytes = %#x, want %#x", x.head, x.b, got, x.want)
		}
	}
}

func TestTagIsEvalOfThePairs(t *testing.T) {
	for _, sub := range keys() {
		for _, n := range lengths() {
			for _, m := range lengths() {
				head, b := counted(1, n), counted(101, m)
				want := bookTag(sub, head, b)
				if got := gcm.Tag(sub, head, b); got != want {
					t.Errorf("by %#x, of a head of %d and %d bytes, Tag = %#x, want %#x", sub, n, m, got, want)
				}
				if got := gcm.Tag(sub, roomy(head), roomy(b)); got != want {
					t.Errorf("by %#x, of a head of %d and %d bytes, Tag hangs on the room behind them", sub, n, m)
				}
			}
		}
	}
}

func TestTagOfLongRows(t *testing.T) {
	for _, n := range []int{0, api.MaxBytes - 1, api.MaxBytes, api.MaxBytes + 1, 3 * api.MaxBytes} {
		for _, m := range []int{0, api.MaxBytes - 1, api.MaxBytes, api.MaxBytes + 1, 3 * api.MaxBytes} {
			head, b := counted(5, n), counted(77, m)
			if got, want := gcm.Tag(other, head, b), bookTag(other, head, b); got != want {
				t.Errorf("Tag of a head of %d and %d bytes = %#x, want %#x", n, m, got, want)
			}
		}
	}
}

func TestTagOfPairsWrittenOut(t *testing.T) {
	row := counted(1, 17)
	first, second := api.Pair{0x0102030405060708, 0x090a0b0c0d0e0f10}, api.Pair{17 << 56, 0}
	for _, x := range []struct {
		name    string
		head, b []byte
		pairs   []api.Pair
	}{
		{"nothing", nil, nil, []api.Pair{{0, 0}}},
		{"a head of 1", row[:1], nil, []api.Pair{{1 << 56, 0}, {1, 0}}},
		{"1 byte", nil, row[:1], []api.Pair{{1 << 56, 0}, {0, 1}}},
		{"a head of 8", row[:8], nil, []api.Pair{{first[0], 0}, {8, 0}}},
		{"15 bytes", nil, row[:15], []api.Pair{{first[0], 0x090a0b0c0d0e0f00}, {0, 15}}},
		{"a head of 16", row[:16], nil, []api.Pair{first, {16, 0}}},
		{"16 bytes", nil, row[:16], []api.Pair{first, {0, 16}}},
		{"a head of 17, 1 byte", row, row[:1], []api.Pair{first, second, {1 << 56, 0}, {17, 1}}},
		{"a head of 1, 17 bytes", row[:1], row, []api.Pair{{1 << 56, 0}, first, second, {1, 17}}},
	} {
		for _, sub := range keys() {
			h, last := speck.Encrypt(sub, api.Pair{0, 1}), speck.Encrypt(sub, api.Pair{0, 0})
			if got, want := gcm.Tag(sub, x.head, x.b), field.Add(field.Eval(h, x.pairs), last); got != want {
				t.Errorf("%s: by %#x, Tag = %#x, want %#x", x.name, sub, got, want)
			}
		}
	}
}

func TestTagOfNilIsThatOfEmpty(t *testing.T) {
	for _, sub := range keys() {
		want := speck.Encrypt(sub, api.Pair{})
		for _, head := range [][]byte{nil, {}, roomy(nil)} {
			for _, b := range [][]byte{nil, {}, roomy(nil)} {
				if got := gcm.Tag(sub, head, b); got != want {
					t.Errorf("by %#x, of nothing, Tag = %#x, want %#x", sub, got, want)
				}
			}
		}
	}
}

func TestTagTellsRowsApart(t *testing.T) {
	// Noughts behind the end, and where head ends, are seen by the lengths alone.
	seen := map[api.Pair][2]int{}
	for n := range 35 {
		for m := range 35 {
			tag := gcm.Tag(some, make([]byte, n), make([]byte, m))
			if before, ok := seen[tag]; ok {
				t.Errorf("of noughts, %d and %d, the Tag is that of %v", n, m, before)
			}
			seen[tag] = [2]int{n, m}
		}
	}
	row := counted(1, 48)
	splits := map[api.Pair]int{}
	for n := range 49 {
		tag := gcm.Tag(some, row[:n], row[n:])
		if before, ok := splits[tag]; ok {
			t.Errorf("of one row, cut at %d, the Tag is that of the cut at %d", n, before)
		}
		splits[tag] = n
	}
}

func TestTagIsTheSameAgain(t *testing.T) {
	head, b := counted(1, 20), counted(50, 30)
	first := gcm.Tag(some, head, b)
	gcm.Tag(other, b, head)
	gcm.Seal(some, once, head, b)
	if again := gcm.Tag(some, head, b); again != first {
		t.Errorf("Tag = %#x, then %#x", first, again)
	}
}

// P5.2: Seal

func TestExample(t *testing.T) {
	for _, key := range keys() {
		for _, n := range nonces() {
			for _, head := range [][]byte{nil, {}, counted(1, 9)} {
				for _, data := range [][]byte{nil, {}, roomy(nil)} {
					s, ok := gcm.Seal(key, n, head, data)
					if want := bookTag(flow.Sub(key, n), head, nil); !ok || len(s.Bytes) != 0 || s.Tag != want {
						t.Errorf("Seal of no data = %x, %#x, %v, want no Bytes, %#x, true", s.Bytes, s.Tag, ok, want)
					}
				}
			}
		}
	}
}

func TestSealOfKnownRows(t *testing.T) {
	// Worked out apart from this program.
	for _, x := range []struct {
		head, data int
		bytes      string
		tag        api.Pair
	}{
		{0, 0, "", api.Pair{0xc8bebaff3a3857f9, 0xd51f2e893e8f20b6}},
		{3, 1, "56", api.Pair{0x4a6dd557256ebcd2, 0x896a46acdc54203b}},
		{16, 15, "5668c26d54e26ae55b24374df8ef97", api.Pair{0x315cca4f2b0a1a60, 0xf7fc51065dad3bd9}},
		{9, 16, "5668c26d54e26ae55b24374df8ef9769", api.Pair{0xcf651f9e9ad0bb4a, 0xcf6d529bbd93eb1b}},
		{17, 17, "5668c26d54e26ae55b24374df8ef97699b", api.Pair{0x314df46d3c144510, 0x9f0ebba307adfb8e}},
		{1, 40, "5668c26d54e26ae55b24374df8ef97699bf02ea434246e5529bc16a5f36dd6e7fcba2a9b66f5a8aa", api.Pair{0xed1991b743f3cf1c, 0x623c5cfbf06173d5}},
	} {
		s := sealed(t, some, once, counted(1, x.head), counted(101, x.data))
		if got := hex.EncodeToString(s.Bytes); got != x.bytes || s.Tag != x.tag {
			t.Errorf("Seal of a head of %d and data of %d = %s, %#x, want %s, %#x", x.head, x.data, got, s.Tag, x.bytes, x.tag)
		}
	}
}

func TestSealOfKnownMostBytes(t *testing.T) {
	// Worked out apart from this program.
	const sum = "89693b57b10915609b0a88ab0b71fda620425411b9bc8a7e3ec4f97f3933d745"
	tag := api.Pair{0x79c09c6d2ce8c1c9, 0xcf1a637c8a1cede5}
	s := sealed(t, some, once, counted(1, api.MaxBytes), counted(101, api.MaxBytes))
	if all := sha256.Sum256(s.Bytes); hex.EncodeToString(all[:]) != sum || s.Tag != tag {
		t.Errorf("Seal of MaxBytes has the sum %x, %#x, want %s, %#x", all, s.Tag, sum, tag)
	}
}

func TestSealIsXorAndTag(t *testing.T) {
	for _, key := range keys() {
		for _, n := range nonces() {
			for _, h := range []int{0, 1, 15, 16, 17, 40} {
				for _, d := range lengths() {
					head, data := counted(1, h), counted(101, d)
					got, want := sealed(t, key, n, head, data), bookSeal(key, n, head, data)
					if !same(got, want) || len(got.Bytes) != d {
						t.Errorf("by %#x, %+v, of a head of %d and data of %d: %x, %#x, want %x, %#x", key, n, h, d, got.Bytes, got.Tag, want.Bytes, want.Tag)
					}
					if !same(sealed(t, key, n, roomy(head), roomy(data)), want) {
						t.Errorf("Seal of a head of %d and data of %d hangs on the room behind them", h, d)
					}
				}
			}
		}
	}
}

func TestSealOfNoughtsShowsTheBytes(t *testing.T) {
	for _, n := range lengths() {
		s := sealed(t, other, once, nil, make([]byte, n))
		if want := flow.Bytes(flow.Sub(other, once), n); !bytes.Equal(s.Bytes, want) {
			t.Errorf("of %d noughts = %x, want %x", n, s.Bytes, want)
		}
	}
}

func TestSealAtTheBound(t *testing.T) {
	for _, n := range []int{0, api.MaxBytes - 1, api.MaxBytes} {
		for _, m := range []int{0, api.MaxBytes - 1, api.MaxBytes} {
			head, data := counted(9, n), counted(60, m)
			s, ok := gcm.Seal(other, once, head, data)
			if !ok || !same(s, bookSeal(other, once, head, data)) {
				t.Errorf("Seal of a head of %d and data of %d is not the document's", n, m)
			}
			mustOpen(t, other, once, head, s, data)
		}
	}
}

func TestSealBeyondTheBoundIsNothing(t *testing.T) {
	for _, x := range [][2]int{
		{api.MaxBytes + 1, 0}, {0, api.MaxBytes + 1},
		{api.MaxBytes + 1, api.MaxBytes}, {api.MaxBytes, api.MaxBytes + 1},
		{api.MaxBytes + 1, api.MaxBytes + 1},
		{api.MaxBytes + 16, 5}, {5, api.MaxBytes + 16},
		{1 << 20, 1}, {1, 1 << 20},
	} {
		s, ok := gcm.Seal(some, once, make([]byte, x[0]), make([]byte, x[1]))
		if ok || s.Bytes != nil || s.Tag != (api.Pair{}) {
			t.Errorf("Seal of a head of %d and data of %d has %d bytes, %#x, %v, want nothing, false", x[0], x[1], len(s.Bytes), s.Tag, ok)
		}
	}
	// Spare room beyond the bound is none of it.
	data := make([]byte, api.MaxBytes, 2*api.MaxBytes)
	if _, ok := gcm.Seal(some, once, data, data); !ok {
		t.Error("Seal counts the room behind its rows")
	}
}

// P5.2: Open

func TestOpenWithAnotherKey(t *testing.T) {
	head, data := counted(1, 9), counted(101, 40)
	s := sealed(t, some, once, head, data)
	for i := range 128 {
		key := some
		key[i/64] ^= 1 << (i % 64)
		mustNotOpen(t, "another key", key, once, head, s)
	}
	for _, key := range keys() {
		if key != some {
			mustNotOpen(t, "another key", key, once, head, s)
		}
	}
	mustNotOpen(t, "the key's numbers the other way", api.Pair{some[1], some[0]}, once, head, s)
	mustNotOpen(t, "the Sub as a key", flow.Sub(some, once), once, head, s)
	mustOpen(t, some, once, head, s, data)
}

func TestOpenWithAnotherNumber(t *testing.T) {
	head, data := counted(1, 9), counted(101, 40)
	s := sealed(t, some, once, head, data)
	for i := range 32 {
		n := once
		n.Epoch ^= 1 << i
		mustNotOpen(t, "another Epoch", some, n, head, s)
		n = once
		n.Slot ^= 1 << i
		mustNotOpen(t, "another Slot", some, n, head, s)
	}
	for i := range 64 {
		n := once
		n.Version ^= 1 << i
		mustNotOpen(t, "another Version", some, n, head, s)
	}
	mustNotOpen(t, "Epoch and Slot the other way", some, api.Nonce{Epoch: 2, Slot: 1, Version: 3}, head, s)
	mustOpen(t, some, once, head, s, data)
}

func TestOpenWithAnotherHead(t *testing.T) {
	for _, n := range []int{0, 1, 15, 16, 17, 40} {
		head, data := counted(1, n), counted(101, 20)
		s := sealed(t, some, once, head, data)
		for i := range 8 * n {
			turned := slices.Clone(head)
			turned[i/8] ^= 1 << (i % 8)
			mustNotOpen(t, "another byte of the head", some, once, turned, s)
		}
		for i := range n {
			mustNotOpen(t, "less of the head", some, once, head[:i], s)
		}
		for _, more := range [][]byte{{0}, {1}, make([]byte, 16), head[:min(n, 16)], s.Bytes} {
			if len(more) > 0 {
				mustNotOpen(t, "more behind the head", some, once, slices.Concat(head, more), s)
				mustNotOpen(t, "more ahead of the head", some, once, slices.Concat(more, head), s)
			}
		}
		mustOpen(t, some, once, head, s, data)
	}
}

func TestOpenOfAnotherByte(t *testing.T) {
	for _, n := range lengths() {
		head, data := counted(1, 9), counted(101, n)
		s := sealed(t, some, once, head, data)
		for i := range 8 * n {
			turned := slices.Clone(s.Bytes)
			turned[i/8] ^= 1 << (i % 8)
			mustNotOpen(t, "another byte", some, once, head, api.Sealed{Bytes: turned, Tag: s.Tag})
		}
		for i := range n {
			mustNotOpen(t, "less of the bytes", some, once, head, api.Sealed{Bytes: s.Bytes[:i], Tag: s.Tag})
		}
		for _, more := range [][]byte{{0}, {1}, make([]byte, 16)} {
			mustNotOpen(t, "more bytes", some, once, head, api.Sealed{Bytes: slices.Concat(s.Bytes, more), Tag: s.Tag})
		}
		if n > 0 {
			mustNotOpen(t, "the data itself", some, once, head, api.Sealed{Bytes: data, Tag: s.Tag})
		}
	}
}

func TestOpenOfAnotherTag(t *testing.T) {
	for _, n := range []int{0, 1, 16, 40} {
		head, data := counted(1, 9), counted(101, n)
		s := sealed(t, some, once, head, data)
		for i := range 128 {
			tag := s.Tag
			tag[i/64] ^= 1 << (i % 64)
			mustNotOpen(t, "another Tag", some, once, head, api.Sealed{Bytes: s.Bytes, Tag: tag})
		}
		for _, tag := range []api.Pair{{}, ones, {s.Tag[1], s.Tag[0]}, {s.Tag[0], 0}, {0, s.Tag[1]}, gcm.Tag(some, head, s.Bytes)} {
			mustNotOpen(t, "another Tag", some, once, head, api.Sealed{Bytes: s.Bytes, Tag: tag})
		}
		elsewhere := sealed(t, some, api.Nonce{Epoch: 1, Slot: 2, Version: 4}, head, data)
		mustNotOpen(t, "the Tag of another number", some, once, head, api.Sealed{Bytes: s.Bytes, Tag: elsewhere.Tag})
	}
}

func TestOpenOfTwoTurnedTogether(t *testing.T) {
	// The byte that moves from the bytes to the head, and back.
	head, data := counted(1, 16), counted(101, 16)
	s := sealed(t, some, once, head, data)
	mustNotOpen(t, "all in the head", some, once, slices.Concat(head, s.Bytes), api.Sealed{Tag: s.Tag})
	mustNotOpen(t, "all in the bytes", some, once, nil, api.Sealed{Bytes: slices.Concat(head, s.Bytes), Tag: s.Tag})
	mustNotOpen(t, "head and bytes the other way", some, once, s.Bytes, api.Sealed{Bytes: head, Tag: s.Tag})
}

func TestOpenOfNothingSealed(t *testing.T) {
	for _, key := range keys() {
		for _, head := range [][]byte{nil, {}, counted(1, 16)} {
			mustNotOpen(t, "a zero value", key, once, head, api.Sealed{})
			mustNotOpen(t, "noughts", key, once, head, api.Sealed{Bytes: make([]byte, 32)})
		}
	}
}

func TestOpenBeyondTheBoundIsNothing(t *testing.T) {
	for _, x := range [][2]int{
		{api.MaxBytes + 1, 0}, {0, api.MaxBytes + 1},
		{api.MaxBytes + 1, 40}, {40, api.MaxBytes + 1},
		{api.MaxBytes + 1, api.MaxBytes + 1}, {1 << 20, 1}, {1, 1 << 20},
	} {
		// With the very tag: the bound alone refuses it.
		head, b := counted(3, x[0]), counted(8, x[1])
		tag := bookTag(flow.Sub(some, once), head, b)
		mustNotOpen(t, "beyond the bound", some, once, head, api.Sealed{Bytes: b, Tag: tag})
	}
	head, b := counted(3, api.MaxBytes), counted(8, api.MaxBytes)
	s := api.Sealed{Bytes: b, Tag: bookTag(flow.Sub(some, once), head, b)}
	mustOpen(t, some, once, head, s, flow.Xor(b, flow.Bytes(flow.Sub(some, once), api.MaxBytes)))
}

// P5.3

func TestOpenOfSealIsTheData(t *testing.T) {
	for _, key := range keys() {
		for _, n := range nonces() {
			for _, h := range []int{0, 1, 15, 16, 17, 40} {
				for _, d := range lengths() {
					head, data := counted(1, h), counted(101, d)
					s := sealed(t, key, n, head, data)
					mustOpen(t, key, n, head, s, data)
					mustOpen(t, key, n, roomy(head), api.Sealed{Bytes: roomy(s.Bytes), Tag: s.Tag}, data)
				}
			}
		}
	}
}

func TestOpenOfSealOfNothing(t *testing.T) {
	s := sealed(t, some, once, nil, nil)
	for _, head := range [][]byte{nil, {}, roomy(nil)} {
		for _, b := range [][]byte{nil, {}, roomy(nil)} {
			mustOpen(t, some, once, head, api.Sealed{Bytes: b, Tag: s.Tag}, nil)
		}
	}
}

func TestOpenOfEveryLength(t *testing.T) {
	for d := range api.MaxBytes + 1 {
		if d > 300 && d%191 != 0 {
			continue
		}
		data := counted(byte(d), d)
		mustOpen(t, other, once, data[:d/2], sealed(t, other, once, data[:d/2], data), data)
	}
}

func TestWhatIsHandedInIsAsItWas(t *testing.T) {
	for _, h := range []int{0, 1, 15, 16, 17, api.MaxBytes, api.MaxBytes + 1} {
		for _, d := range []int{0, 1, 15, 16, 17, api.MaxBytes, api.MaxBytes + 1} {
			head, data := roomy(counted(1, h)), roomy(counted(101, d))
			wantHead, wantData := slices.Clone(whole(head)), slices.Clone(whole(data))
			s, _ := gcm.Seal(some, once, head, data)
			gcm.Tag(some, head, data)
			gcm.Open(some, once, head, api.Sealed{Bytes: data})
			hidden := roomy(s.Bytes)
			wantHidden := slices.Clone(whole(hidden))
			gcm.Open(some, once, head, api.Sealed{Bytes: hidden, Tag: s.Tag})
			if !bytes.Equal(whole(head), wantHead) || !bytes.Equal(whole(data), wantData) || !bytes.Equal(whole(hidden), wantHidden) {
				t.Errorf("a head of %d and data of %d: a row, or the room behind it, is changed", h, d)
			}
		}
	}
}

func TestWhatSealAnswersIsNewMemory(t *testing.T) {
	for _, d := range []int{0, 1, 16, 40, api.MaxBytes} {
		head, data := roomy(counted(1, 20)), roomy(counted(101, d))
		wantHead, wantData := slices.Clone(whole(head)), slices.Clone(whole(data))
		first, second := sealed(t, some, once, head, data), sealed(t, some, once, head, data)
		want := bookSeal(some, once, head, data)
		smear(first.Bytes)
		if !bytes.Equal(whole(head), wantHead) || !bytes.Equal(whole(data), wantData) {
			t.Errorf("of %d bytes: what is sealed shares memory with what was handed in", d)
		}
		third := sealed(t, some, once, head, data)
		smear(head)
		smear(data)
		if !same(second, want) || !same(third, want) {
			t.Errorf("of %d bytes: what is sealed shares memory with another answer, or with what was handed in", d)
		}
	}
}

func TestWhatOpenAnswersIsNewMemory(t *testing.T) {
	for _, d := range []int{0, 1, 16, 40, api.MaxBytes} {
		head, data := roomy(counted(1, 20)), counted(101, d)
		s := sealed(t, some, once, head, data)
		s.Bytes = roomy(s.Bytes)
		wantHead, wantBytes := slices.Clone(whole(head)), slices.Clone(whole(s.Bytes))
		first, _ := gcm.Open(some, once, head, s)
		second, _ := gcm.Open(some, once, head, s)
		smear(first)
		if !bytes.Equal(whole(head), wantHead) || !bytes.Equal(whole(s.Bytes), wantBytes) {
			t.Errorf("of %d bytes: what is opened shares memory with what was handed in", d)
		}
		third, _ := gcm.Open(some, once, head, s)
		smear(head)
		smear(s.Bytes)
		if !bytes.Equal(second, data) || !bytes.Equal(third, data) {
			t.Errorf("of %d bytes: what is opened shares memory with another answer, or with what was handed in", d)
		}
	}
}

func TestOneRowAsHeadAndData(t *testing.T) {
	row := counted(1, 60)
	want := bookSeal(some, once, row[:30], row[10:50])
	if s := sealed(t, some, once, row[:30], row[10:50]); !same(s, want) || !bytes.Equal(row, counted(1, 60)) {
		t.Errorf("of two pieces of one row: %x, %#x, want %x, %#x", s.Bytes, s.Tag, want.Bytes, want.Tag)
	}
	s := sealed(t, some, once, row, row)
	mustOpen(t, some, once, row, s, row)
}

func TestSealIsTheSameAgain(t *testing.T) {
	head, data := counted(1, 20), counted(50, 30)
	first := sealed(t, some, once, head, data)
	sealed(t, other, api.Nonce{Epoch: 9}, data, head)
	mustNotOpen(t, "another key", other, once, head, first)
	if again := sealed(t, some, once, head, data); !same(again, first) {
		t.Errorf("Seal = %x, %#x, then %x, %#x", first.Bytes, first.Tag, again.Bytes, again.Tag)
	}
	mustOpen(t, some, once, head, first, data)
}
