package leaf_test

import (
	"bytes"
	"math"
	"slices"
	"testing"

	"lockbox/api"
	"lockbox/leaf"
)

// noSlots has what is no slot: beside both ends, at the ends of an int, and what is one
// in its lowest digits alone.
func noSlots() []int {
	return []int{
		-1, -2, -15, -16, api.MaxSlots, api.MaxSlots + 1, 31, 32, 255, 256, 1 << 16, 1<<16 + 5,
		api.RootSlot, 1<<31 - 1, 1 << 31, 1<<32 - 1, 1 << 32, 1<<32 + 5, -1 << 32, -1<<32 + 5,
		math.MaxInt, math.MinInt, math.MinInt + 5,
	}
}

// noLbas has what is no block, likewise.
func noLbas() []int {
	return []int{
		-1, -2, -31, -32, api.Lbas, api.Lbas + 1, 63, 64, 255, 256, 256 + 7, 1<<16 - 1, 1 << 16,
		1<<16 + 7, 1<<31 - 1, 1 << 31, 1 << 32, 1<<32 + 7, -1<<32 + 7, math.MaxInt, math.MinInt,
		math.MinInt + 7,
	}
}

// noKinds has what is no kind, likewise.
func noKinds() []int {
	l := []int{-1, -2, -3, 3, 4, 5, 127, 128, 254, 255, math.MaxInt, math.MinInt}
	for _, far := range []int{1 << 8, 1 << 16, 1 << 31, 1 << 32, -1 << 8, -1 << 16, -1 << 32, math.MinInt} {
		l = append(l, far+api.Empty, far+api.Full, far+api.Zero)
	}
	return l
}

// words has numbers of eight bytes: at both ends, single digits, and every byte another one.
func words() []uint64 {
	return []uint64{
		0, 1, 255, 256, 1<<32 - 1, 1 << 32, 1 << 63, math.MaxUint64 - 1, math.MaxUint64,
		0x0123456789abcdef, 0xf0e1d2c3b4a59687,
	}
}

// epochs has those that may be, likewise.
func epochs() []uint32 {
	return []uint32{1, 2, 255, 256, 1 << 16, 1 << 24, 1 << 31, math.MaxUint32 - 1, math.MaxUint32, 0x12345678}
}

// zero is a leaf of a block of noughts.
func zero(lba int) api.Leaf { return api.Leaf{Kind: api.Zero, Dirty: true, Lba: lba} }

// full is a full leaf of a slot, of which each number has bytes of its own.
func full(slot int) api.Leaf {
	return api.Leaf{
		Kind:  api.Full,
		Dirty: true,
		Lba:   7,
		Nonce: api.Nonce{Epoch: 0x01020304, Slot: uint32(slot), Version: 0x0a0b0c0d0e0f1011},
		Tag:   api.Pair{0x2122232425262728, 0x3132333435363738},
	}
}

// of has a leaf of each kind for a slot.
func of(slot int) []api.Leaf {
	clean := full(slot)
	clean.Dirty = false
	return []api.Leaf{{}, zero(0), zero(31), full(slot), clean}
}

// laid is how a leaf's bytes must be, place by place.
func laid(l api.Leaf) []byte {
	b := make([]byte, 32)
	b[0] = byte(l.Kind)
	if l.Dirty {
		b[1] = 1
	}
	b[2], b[3] = byte(l.Lba/256), byte(l.Lba%256)
	for i := range 4 {
		b[4+i] = byte(l.Nonce.Epoch >> (24 - 8*i))
	}
	for i := range 8 {
		b[8+i] = byte(l.Nonce.Version >> (56 - 8*i))
		b[16+i] = byte(l.Tag[0] >> (56 - 8*i))
		b[24+i] = byte(l.Tag[1] >> (56 - 8*i))
	}
	return b
}

// nought says whether there is nothing but noughts.
func nought(b []byte) bool { return len(bytes.Trim(b, "\x00")) == 0 }

// told is what 32 bytes must be read as, by the bytes alone.
func told(b []byte, slot int) (api.Leaf, bool) {
	ok := false
	switch b[0] {
	case 0:
		ok = nought(b)
	case 1:
		ok = b[1] < 2 && b[2] == 0 && b[3] < 32 && !nought(b[4:8])
	case 2:
		ok = b[1] == 1 && b[2] == 0 && b[3] < 32 && nought(b[4:])
	}
	if !ok {
		return api.Leaf{}, false
	}
	l := api.Leaf{Kind: int(b[0]), Dirty: b[1] == 1, Lba: int(b[3])}
	if b[0] == 1 {
		l.Nonce.Slot = uint32(slot)
	}
	for _, x := range b[4:8] {
		l.Nonce.Epoch = l.Nonce.Epoch*256 + uint32(x)
	}
	for i := range 8 {
		l.Nonce.Version = l.Nonce.Version*256 + uint64(b[8+i])
		l.Tag[0] = l.Tag[0]*256 + uint64(b[16+i])
		l.Tag[1] = l.Tag[1]*256 + uint64(b[24+i])
	}
	return l, true
}

// mustBe wants a leaf to be one, as these bytes, and back.
func mustBe(t *testing.T, l api.Leaf, slot int, want []byte) {
	t.Helper()
	if !leaf.Is(l, slot) {
		t.Fatalf("Is(%+v, %d) = false", l, slot)
	}
	b, ok := leaf.Put(l, slot)
	if !ok || len(b) != api.LeafSize || !bytes.Equal(b, want) {
		t.Fatalf("Put(%+v, %d) = %v, %v, want %v", l, slot, b, ok, want)
	}
	if back, ok := leaf.Get(b, slot); !ok || back != l {
		t.Fatalf("Get(%v, %d) = %+v, %v, want %+v", b, slot, back, ok, l)
	}
}

// mustNotBe wants a leaf to be none.
func mustNotBe(t *testing.T, l api.Leaf, slot int) {
	t.Helper()
	if leaf.Is(l, slot) {
		t.Fatalf("Is(%+v, %d) = true", l, slot)
	}
	if b, ok := leaf.Put(l, slot); ok || b != nil {
		t.Fatalf("Put(%+v, %d) = %v, %v", l, slot, b, ok)
	}
}

// mustGet wants bytes to be read as told.
func mustGet(t *testing.T, b []byte, slot int) {
	t.Helper()
	want, is := told(b, slot)
	if l, ok := leaf.Get(b, slot); ok != is || l != want {
		t.Fatalf("Get(%v, %d) = %+v, %v, want %+v, %v", b, slot, l, ok, want, is)
	}
}

// mustNotGet wants bytes to be none.
func mustNotGet(t *testing.T, b []byte, slot int) {
	t.Helper()
	if l, ok := leaf.Get(b, slot); ok || l != (api.Leaf{}) {
		t.Fatalf("Get(%v, %d) = %+v, %v", b, slot, l, ok)
	}
}

func TestExample(t *testing.T) {
	for slot := range api.MaxSlots {
		mustBe(t, api.Leaf{Kind: api.Empty}, slot, make([]byte, 32))
	}
}

func TestBytesOfEachKind(t *testing.T) {
	mustBe(t, zero(31), 3, append([]byte{2, 1, 0, 31}, make([]byte, 28)...))
	mustBe(t, zero(0), 0, append([]byte{2, 1}, make([]byte, 30)...))
	mustBe(t, full(5), 5, []byte{
		1, 1, 0, 7, 1, 2, 3, 4, 10, 11, 12, 13, 14, 15, 16, 17,
		0x21, 0x22, 0x23, 0x24, 0x25, 0x26, 0x27, 0x28, 0x31, 0x32, 0x33, 0x34, 0x35, 0x36, 0x37, 0x38,
	})
	least := api.Leaf{Kind: api.Full, Nonce: api.Nonce{Epoch: 1}}
	mustBe(t, least, 0, append([]byte{1, 0, 0, 0, 0, 0, 0, 1}, make([]byte, 24)...))
	most := api.Leaf{
		Kind:  api.Full,
		Dirty: true,
		Lba:   31,
		Nonce: api.Nonce{Epoch: math.MaxUint32, Slot: 15, Version: math.MaxUint64},
		Tag:   api.Pair{math.MaxUint64, math.MaxUint64},
	}
	mustBe(t, most, 15, append([]byte{1, 1, 0, 31}, bytes.Repeat([]byte{255}, 28)...))
}

func TestEachSlot(t *testing.T) {
	for slot := range api.MaxSlots {
		for _, l := range of(slot) {
			mustBe(t, l, slot, laid(l))
		}
	}
}

func TestNoSuchSlot(t *testing.T) {
	for _, slot := range noSlots() {
		for _, l := range of(slot) {
			mustNotBe(t, l, slot)
			mustNotGet(t, laid(l), slot)
		}
		// Of a slot that there is in its lowest digits the leaf of that one is none, either.
		mustNotBe(t, full(slot&15), slot)
	}
}

func TestEachBlock(t *testing.T) {
	for lba := range api.Lbas {
		for slot := range api.MaxSlots {
			l := full(slot)
			l.Lba = lba
			mustBe(t, l, slot, laid(l))
			l.Dirty = false
			mustBe(t, l, slot, laid(l))
			mustBe(t, zero(lba), slot, laid(zero(lba)))
		}
	}
}

func TestNoSuchBlock(t *testing.T) {
	for _, lba := range noLbas() {
		for slot := range api.MaxSlots {
			l := full(slot)
			l.Lba = lba
			mustNotBe(t, l, slot)
			l.Dirty = false
			mustNotBe(t, l, slot)
			mustNotBe(t, zero(lba), slot)
		}
	}
}

func TestNoSuchKind(t *testing.T) {
	for _, kind := range noKinds() {
		for slot := range api.MaxSlots {
			for _, l := range of(slot) {
				l.Kind = kind
				mustNotBe(t, l, slot)
			}
		}
	}
}

func TestEmptyHasNothingElse(t *testing.T) {
	for slot := range api.MaxSlots {
		mustNotBe(t, api.Leaf{Dirty: true}, slot)
		for _, lba := range slices.Concat([]int{1, 2, 31}, noLbas()) {
			mustNotBe(t, api.Leaf{Lba: lba}, slot)
		}
		for _, l := range noted(api.Leaf{}) {
			mustNotBe(t, l, slot)
		}
		mustNotBe(t, api.Leaf{Nonce: api.Nonce{Slot: max(1, uint32(slot))}}, slot)
	}
}

// noted is a leaf with a word of a Nonce or a Tag, one at a time, that has none.
func noted(bare api.Leaf) []api.Leaf {
	var all []api.Leaf
	for _, x := range words() {
		if x != 0 {
			version, high, low := bare, bare, bare
			version.Nonce.Version, high.Tag[0], low.Tag[1] = x, x, x
			all = append(all, version, high, low)
		}
	}
	for _, x := range slices.Concat(epochs(), []uint32{3, 15, 16, api.RootSlot}) {
		epoch, slot := bare, bare
		epoch.Nonce.Epoch, slot.Nonce.Slot = x, x
		all = append(all, epoch, slot)
	}
	return all
}

func TestZeroIsDirtyWithoutNonceAndTag(t *testing.T) {
	for slot := range api.MaxSlots {
		for lba := range api.Lbas {
			mustNotBe(t, api.Leaf{Kind: api.Zero, Lba: lba}, slot)
		}
		for _, lba := range []int{0, 5, 31} {
			for _, l := range noted(zero(lba)) {
				mustNotBe(t, l, slot)
			}
		}
		if slot > 0 {
			mustNotBe(t, api.Leaf{Kind: api.Zero, Dirty: true, Nonce: api.Nonce{Slot: uint32(slot)}}, slot)
		}
	}
}

func TestFullHasItsSlot(t *testing.T) {
	for slot := range api.MaxSlots {
		l := full(slot)
		for other := range uint32(4 * api.MaxSlots) {
			if l.Nonce.Slot = other; other != uint32(slot) {
				mustNotBe(t, l, slot)
			}
		}
		for _, far := range []uint32{16, 1 << 8, 1 << 16, 1 << 31, math.MaxUint32 - 15, api.RootSlot} {
			l.Nonce.Slot = far | uint32(slot)
			mustNotBe(t, l, slot)
			l.Nonce.Slot = far
			mustNotBe(t, l, slot)
			l.Nonce.Slot = ^uint32(slot)
			mustNotBe(t, l, slot)
		}
	}
}

func TestFullOfEachEpoch(t *testing.T) {
	for slot := range api.MaxSlots {
		l := full(slot)
		for _, l.Nonce.Epoch = range epochs() {
			mustBe(t, l, slot, laid(l))
		}
		for digit := range 32 {
			l.Nonce.Epoch = 1 << digit
			mustBe(t, l, slot, laid(l))
		}
		l.Nonce.Epoch = 0
		mustNotBe(t, l, slot)
		l.Dirty = false
		mustNotBe(t, l, slot)
		mustNotBe(t, api.Leaf{Kind: api.Full, Nonce: api.Nonce{Slot: uint32(slot)}}, slot)
	}
}

func TestFullOfAnyVersionAndTag(t *testing.T) {
	for slot := range api.MaxSlots {
		for _, x := range words() {
			version, high, low := full(slot), full(slot), full(slot)
			version.Nonce.Version, high.Tag[0], low.Tag[1] = x, x, x
			for _, l := range []api.Leaf{version, high, low} {
				mustBe(t, l, slot, laid(l))
				l.Dirty = false
				mustBe(t, l, slot, laid(l))
			}
		}
	}
}

func TestGetOfOtherLengths(t *testing.T) {
	mustNotGet(t, nil, 0)
	mustNotGet(t, []byte{}, 5)
	for _, l := range of(5) {
		row := append(laid(l), make([]byte, 70)...)
		for n := range len(row) {
			if n != api.LeafSize {
				mustNotGet(t, row[:n], 5)
				mustNotGet(t, bytes.Clone(row[:n]), 5)
			}
		}
		// Nor do noughts ahead of it make it one.
		mustNotGet(t, append([]byte{0}, laid(l)...), 5)
		mustNotGet(t, laid(l)[1:], 5)
		mustNotGet(t, append(laid(l), laid(l)...), 5)
	}
}

func TestGetReadsNoSpareRoom(t *testing.T) {
	row := append(laid(full(5)), bytes.Repeat([]byte{255}, 32)...)
	mustGet(t, row[:32], 5)
	mustNotGet(t, row[:31], 5)
}

// Each byte of a leaf of each kind is turned to each other byte: it is read where that
// is just another leaf's.
func TestGetOfEachByteTurned(t *testing.T) {
	for slot := range api.MaxSlots {
		for _, l := range of(slot) {
			b := laid(l)
			for at, was := range b {
				for x := range 256 {
					b[at] = byte(x)
					mustGet(t, b, slot)
				}
				b[at] = was
			}
		}
	}
}

func TestGetOfKindsThatThereAreNot(t *testing.T) {
	for slot := range api.MaxSlots {
		for _, l := range of(slot) {
			b := laid(l)
			for kind := 3; kind < 256; kind++ {
				b[0] = byte(kind)
				mustNotGet(t, b, slot)
			}
		}
	}
}

func TestGetOfAnotherKind(t *testing.T) {
	for slot := range api.MaxSlots {
		b := laid(full(slot))
		for _, b[0] = range []byte{api.Empty, api.Zero} {
			mustNotGet(t, b, slot)
		}
		b = laid(zero(4))
		for _, b[0] = range []byte{api.Empty, api.Full} {
			mustNotGet(t, b, slot)
		}
		for _, kind := range []byte{api.Full, api.Zero} {
			mustNotGet(t, append([]byte{kind}, make([]byte, 31)...), slot)
		}
	}
}

func TestGetOfDirtyThatIsNeither(t *testing.T) {
	for slot := range api.MaxSlots {
		for _, l := range of(slot) {
			b := laid(l)
			for x := 2; x < 256; x++ {
				b[1] = byte(x)
				mustNotGet(t, b, slot)
			}
		}
	}
}

func TestGetOfBlocksThatThereAreNot(t *testing.T) {
	for _, l := range []api.Leaf{zero(7), full(9)} {
		b := laid(l)
		for lba := api.Lbas; lba < 1<<16; lba++ {
			b[2], b[3] = byte(lba/256), byte(lba%256)
			mustNotGet(t, b, 9)
		}
	}
}

func TestGetOfNoEpoch(t *testing.T) {
	for slot := range api.MaxSlots {
		l := full(slot)
		l.Nonce.Epoch = 0
		mustNotGet(t, laid(l), slot)
		l.Dirty = false
		mustNotGet(t, laid(l), slot)
		mustNotGet(t, laid(api.Leaf{Kind: api.Full}), slot)
	}
}

// One row of bytes is a full leaf of whichever slot it is read for.
func TestGetOfEachSlot(t *testing.T) {
	b := laid(full(0))
	for slot := range api.MaxSlots {
		if l, ok := leaf.Get(b, slot); !ok || l != full(slot) {
			t.Fatalf("Get(%v, %d) = %+v, %v", b, slot, l, ok)
		}
	}
}

// source makes numbers one behind the other.
type source uint64

// next is its next number below n.
func (s *source) next(n int) int {
	*s = *s*6364136223846793005 + 1442695040888963407
	return int(uint64(*s) >> 33 % uint64(n))
}

// bytes is a row that is a leaf often enough: small numbers ahead, behind them anything,
// or nothing.
func (s *source) bytes() []byte {
	b := make([]byte, 32)
	b[0], b[1], b[2], b[3] = byte(s.next(4)), byte(s.next(3)), byte(s.next(8)/7), byte(s.next(40))
	if b[0] == api.Full || s.next(4) == 0 {
		for i := 4 + s.next(28); i < 32; i++ {
			b[i] = byte(s.next(256))
		}
	}
	return b
}

func TestLongRowOfBytes(t *testing.T) {
	s, seen := source(15), [3]int{}
	for range 40000 {
		b, slot := s.bytes(), s.next(api.MaxSlots)
		mustGet(t, b, slot)
		if l, ok := leaf.Get(b, slot); ok {
			seen[l.Kind]++
			mustBe(t, l, slot, b)
		}
	}
	if slices.Min(seen[:]) == 0 {
		t.Fatalf("leaves of each kind: %v", seen)
	}
}

// leaf is one that may be often enough.
func (s *source) leaf(slot int) api.Leaf {
	l := api.Leaf{Kind: s.next(3)}
	if l.Kind == api.Empty {
		return l
	}
	l.Dirty, l.Lba = s.next(5) > 0, s.next(34)-1
	if l.Kind == api.Full {
		l.Nonce.Slot, l.Nonce.Epoch = uint32(slot), uint32(s.next(3)*s.next(1<<31))
		l.Nonce.Version = uint64(s.next(1<<31)) << s.next(34)
		l.Tag = api.Pair{uint64(s.next(1<<31)) << s.next(34), uint64(s.next(1<<31)) << s.next(34)}
	}
	if s.next(8) == 0 {
		l.Nonce.Slot = uint32(s.next(api.MaxSlots))
	}
	return l
}

// may tells of these leaves whether they may be.
func may(l api.Leaf, slot int) bool {
	block := 0 <= l.Lba && l.Lba < 32
	switch l.Kind {
	case api.Full:
		return block && l.Nonce.Slot == uint32(slot) && l.Nonce.Epoch > 0
	case api.Zero:
		return block && l.Dirty && l.Nonce.Slot == 0
	}
	return l.Nonce.Slot == 0
}

func TestLongRowOfLeaves(t *testing.T) {
	s, seen := source(51), [2]int{}
	for range 40000 {
		slot := s.next(api.MaxSlots)
		l := s.leaf(slot)
		if may(l, slot) {
			seen[1]++
			mustBe(t, l, slot, laid(l))
		} else {
			seen[0]++
			mustNotBe(t, l, slot)
		}
	}
	if slices.Min(seen[:]) == 0 {
		t.Fatalf("leaves that may and may not be: %v", seen)
	}
}

// roomy is b with spare room behind its end.
func roomy(b []byte) []byte { return append(b, 1, 2, 3, 4, 5, 6, 7, 8)[:len(b)] }

// smear writes over all of b, spare room too.
func smear(b []byte) {
	b = b[:cap(b)]
	for i := range b {
		b[i] = ^b[i]
	}
}

func TestWhatIsHandedInIsNotChanged(t *testing.T) {
	for _, l := range of(5) {
		b := roomy(laid(l))
		was := bytes.Clone(b[:cap(b)])
		leaf.Get(b, 5)
		leaf.Get(b[:31], 5)
		leaf.Get(b[:33], 5)
		leaf.Get(b, 99)
		if !bytes.Equal(b[:cap(b)], was) {
			t.Fatalf("Get changed %v to %v", was, b[:cap(b)])
		}
	}
}

func TestWhatIsHandedInIsNotKept(t *testing.T) {
	for _, l := range of(5) {
		b := roomy(laid(l))
		got, ok := leaf.Get(b, 5)
		smear(b)
		if !ok || got != l {
			t.Fatalf("behind a smear Get = %+v, %v, want %+v", got, ok, l)
		}
		mustBe(t, l, 5, laid(l))
	}
}

func TestPutIsNewMemoryEachTime(t *testing.T) {
	for _, l := range of(5) {
		first, _ := leaf.Put(l, 5)
		second, _ := leaf.Put(l, 5)
		smear(first)
		if !bytes.Equal(second, laid(l)) {
			t.Fatalf("behind a smear of another answer it is %v", second)
		}
		mustBe(t, l, 5, laid(l))
		smear(second)
		mustBe(t, l, 5, laid(l))
	}
}
