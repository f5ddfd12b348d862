package root_test

import (
	"bytes"
	"math"
	"slices"
	"testing"

	"lockbox/api"
	"lockbox/root"
)

// slots has the three that there are.
func slots() []int { return []int{4, 8, 16} }

// noSlots has others: beside them, at the ends of an int, and what is one in its lowest
// digits alone.
func noSlots() []int {
	l := []int{
		-1, -2, -4, -8, -16, 31, 32, 64, 127, 128, 255, 256, 1 << 10, 1 << 11, 1 << 12, 1 << 16,
		1<<31 - 1, 1 << 31, 1<<32 - 1, 1 << 32, -1 << 32, math.MaxInt - 1, math.MaxInt, math.MinInt,
	}
	for n := range 41 {
		if n != 4 && n != 8 && n != 16 {
			l = append(l, n)
		}
	}
	for _, far := range []int{1 << 5, 1 << 8, 1 << 16, 1 << 24, 1 << 31, 1 << 32, 1 << 62, -1 << 5, -1 << 8, -1 << 16, -1 << 32, math.MinInt} {
		l = append(l, far+4, far+8, far+16)
	}
	return l
}

// words has numbers of eight bytes: at both ends, single digits, and every byte another one.
func words() []uint64 {
	l := []uint64{0, 255, math.MaxUint32, math.MaxUint64 - 1, math.MaxUint64, 0x0123456789abcdef, 0xf0e1d2c3b4a59687}
	for digit := range 64 {
		l = append(l, 1<<digit)
	}
	return l
}

// halves has numbers of four bytes, likewise.
func halves() []uint32 {
	l := []uint32{0, 255, math.MaxUint16, math.MaxUint32 - 1, math.MaxUint32, 0x12345678, 0xf0e1d2c3}
	for digit := range 32 {
		l = append(l, 1<<digit)
	}
	return l
}

// plain is a root of which each byte is another one.
func plain(n int) api.Root {
	return api.Root{
		Count: 0xa1a2a3a4a5a6a7a8,
		Epoch: 0xb1b2b3b4,
		Slots: n,
		Hash:  api.Pair{0xc1c2c3c4c5c6c7c8, 0xd1d2d3d4d5d6d7d8},
	}
}

// least is a root of noughts, most one of the greatest numbers.
func least(n int) api.Root { return api.Root{Slots: n} }

func most(n int) api.Root {
	return api.Root{
		Count: math.MaxUint64,
		Epoch: math.MaxUint32,
		Slots: n,
		Hash:  api.Pair{math.MaxUint64, math.MaxUint64},
	}
}

// roots has these for each of the three.
func roots() []api.Root {
	var all []api.Root
	for _, n := range slots() {
		all = append(all, plain(n), least(n), most(n))
	}
	return all
}

// lay writes a number's lowest bytes over b, the highest first.
func lay(b []byte, v uint64) {
	for i := range b {
		b[len(b)-1-i] = byte(v >> (8 * i))
	}
}

// told is the number of which b is made.
func told(b []byte) uint64 {
	v := uint64(0)
	for _, x := range b {
		v = v*256 + uint64(x)
	}
	return v
}

// laid is how a root's bytes must be, place by place.
func laid(r api.Root) []byte {
	b := make([]byte, 32)
	lay(b[:8], r.Count)
	lay(b[8:12], uint64(r.Epoch))
	lay(b[12:16], uint64(r.Slots))
	lay(b[16:24], r.Hash[0])
	lay(b[24:], r.Hash[1])
	return b
}

// mustBe wants a root to be these bytes, and back.
func mustBe(t *testing.T, r api.Root, want []byte) {
	t.Helper()
	b, ok := root.Put(r)
	if !ok || len(b) != api.RootSize || !bytes.Equal(b, want) {
		t.Fatalf("Put(%+v) = %v, %v, want %v", r, b, ok, want)
	}
	if back, ok := root.Get(b); !ok || back != r {
		t.Fatalf("Get(%v) = %+v, %v, want %+v", b, back, ok, r)
	}
}

// mustNotBe wants a root to be none.
func mustNotBe(t *testing.T, r api.Root) {
	t.Helper()
	if b, ok := root.Put(r); ok || b != nil {
		t.Fatalf("Put(%+v) = %v, %v", r, b, ok)
	}
}

// mustGet wants 32 bytes to be read as the bytes alone tell.
func mustGet(t *testing.T, b []byte) {
	t.Helper()
	want := api.Root{}
	is := b[12] == 0 && b[13] == 0 && b[14] == 0 && (b[15] == 4 || b[15] == 8 || b[15] == 16)
	if is {
		want.Count, want.Epoch, want.Slots = told(b[:8]), uint32(told(b[8:12])), int(b[15])
		want.Hash = api.Pair{told(b[16:24]), told(b[24:])}
	}
	if r, ok := root.Get(b); ok != is || r != want {
		t.Fatalf("Get(%v) = %+v, %v, want %+v, %v", b, r, ok, want, is)
	}
}

// mustNotGet wants bytes to be no root.
func mustNotGet(t *testing.T, b []byte) {
	t.Helper()
	if r, ok := root.Get(b); ok || r != (api.Root{}) {
		t.Fatalf("Get(%v) = %+v, %v", b, r, ok)
	}
}

func TestExample(t *testing.T) {
	for _, r := range roots() {
		if b, ok := root.Put(r); !ok || len(b) != 32 {
			t.Fatalf("Put(%+v) = %v, %v", r, b, ok)
		}
	}
}

func TestPlaces(t *testing.T) {
	for _, n := range slots() {
		mustBe(t, plain(n), []byte{
			0xa1, 0xa2, 0xa3, 0xa4, 0xa5, 0xa6, 0xa7, 0xa8, 0xb1, 0xb2, 0xb3, 0xb4, 0, 0, 0, byte(n),
			0xc1, 0xc2, 0xc3, 0xc4, 0xc5, 0xc6, 0xc7, 0xc8, 0xd1, 0xd2, 0xd3, 0xd4, 0xd5, 0xd6, 0xd7, 0xd8,
		})
		mustBe(t, least(n), slices.Concat(make([]byte, 15), []byte{byte(n)}, make([]byte, 16)))
		full := bytes.Repeat([]byte{255}, 32)
		copy(full[12:], []byte{0, 0, 0, byte(n)})
		mustBe(t, most(n), full)
	}
}

func TestEachNumber(t *testing.T) {
	for _, r := range roots() {
		for _, x := range words() {
			count, high, low := r, r, r
			count.Count, high.Hash[0], low.Hash[1] = x, x, x
			mustBe(t, count, laid(count))
			mustBe(t, high, laid(high))
			mustBe(t, low, laid(low))
		}
		for _, r.Epoch = range halves() {
			mustBe(t, r, laid(r))
		}
	}
}

func TestNoSuchSlots(t *testing.T) {
	for _, r := range roots() {
		for _, r.Slots = range noSlots() {
			mustNotBe(t, r)
			if 0 <= r.Slots && r.Slots < 1<<32 {
				mustNotGet(t, laid(r))
			}
		}
	}
}

func TestGetOfOtherLengths(t *testing.T) {
	mustNotGet(t, nil)
	mustNotGet(t, []byte{})
	for _, r := range roots() {
		b := laid(r)
		row := append(laid(r), make([]byte, 70)...)
		for n := range len(row) {
			if n != api.RootSize {
				mustNotGet(t, row[:n])
				mustNotGet(t, bytes.Clone(row[:n]))
			}
		}
		// Nor is it one with anything ahead of it, without its first, or twice.
		mustNotGet(t, append([]byte{0}, b...))
		mustNotGet(t, b[1:])
		mustNotGet(t, append(b, b...))
	}
}

func TestGetReadsNoSpareRoom(t *testing.T) {
	b := roomy(laid(plain(8)))
	mustGet(t, b)
	mustNotGet(t, b[:31])
	mustNotGet(t, b[:0])
}

// Each byte of a root is turned to each other one: it is read where Put could have made it.
func TestGetOfEachByteTurned(t *testing.T) {
	for _, r := range roots() {
		b := laid(r)
		for at, was := range b {
			for x := range 256 {
				b[at] = byte(x)
				mustGet(t, b)
				if got, ok := root.Get(b); ok {
					mustBe(t, got, b)
				}
			}
			b[at] = was
		}
	}
}

func TestGetOfSlotsThatThereAreNot(t *testing.T) {
	for _, r := range roots() {
		for at := 12; at < 15; at++ {
			b := laid(r)
			for x := 1; x < 256; x++ {
				b[at] = byte(x)
				mustNotGet(t, b)
			}
		}
		b := laid(r)
		for low := range 1 << 16 {
			if lay(b[12:16], uint64(low)); low != 4 && low != 8 && low != 16 {
				mustNotGet(t, b)
			}
		}
		// The lowest byte stands last, nowhere else.
		lay(b[12:16], uint64(r.Slots)<<24)
		mustNotGet(t, b)
	}
}

// bare is a Nonce of a root, and sealed such a root, of which each byte is another one.
func bare() api.Nonce {
	return api.Nonce{Epoch: 0x01020304, Slot: api.RootSlot, Version: 0x0a0b0c0d0e0f1011}
}

func sealed() api.Sealed {
	s := api.Sealed{Tag: api.Pair{0xe1e2e3e4e5e6e7e8, 0xf1f2f3f4f5f6f7f8}}
	for i := range 32 {
		s.Bytes = append(s.Bytes, byte(0x40+i))
	}
	return s
}

// same says whether two are the same.
func same(a, b api.Sealed) bool { return a.Tag == b.Tag && bytes.Equal(a.Bytes, b.Bytes) }

// laidRec is how a record's bytes must be, place by place.
func laidRec(n api.Nonce, s api.Sealed) []byte {
	b := make([]byte, 60)
	lay(b[:4], uint64(n.Epoch))
	lay(b[4:12], n.Version)
	copy(b[12:44], s.Bytes)
	lay(b[44:52], s.Tag[0])
	lay(b[52:], s.Tag[1])
	return b
}

// mustRec wants a record to be these bytes, and back.
func mustRec(t *testing.T, n api.Nonce, s api.Sealed, want []byte) {
	t.Helper()
	b, ok := root.PutRec(n, s)
	if !ok || len(b) != api.RecSize || !bytes.Equal(b, want) {
		t.Fatalf("PutRec(%+v, %+v) = %v, %v, want %v", n, s, b, ok, want)
	}
	if m, back, ok := root.GetRec(b); !ok || m != n || !same(back, s) {
		t.Fatalf("GetRec(%v) = %+v, %+v, %v, want %+v, %+v", b, m, back, ok, n, s)
	}
}

// mustNotRec wants a record to be none.
func mustNotRec(t *testing.T, n api.Nonce, s api.Sealed) {
	t.Helper()
	if b, ok := root.PutRec(n, s); ok || b != nil {
		t.Fatalf("PutRec(%+v, %+v) = %v, %v", n, s, b, ok)
	}
}

// mustGetRec wants 60 bytes to be read place by place, and put again.
func mustGetRec(t *testing.T, b []byte) {
	t.Helper()
	want := api.Nonce{Epoch: uint32(told(b[:4])), Slot: 65535, Version: told(b[4:12])}
	box := api.Sealed{Bytes: b[12:44], Tag: api.Pair{told(b[44:52]), told(b[52:])}}
	n, s, ok := root.GetRec(b)
	if !ok || n != want || !same(s, box) {
		t.Fatalf("GetRec(%v) = %+v, %+v, %v, want %+v, %+v", b, n, s, ok, want, box)
	}
	if again, ok := root.PutRec(n, s); !ok || !bytes.Equal(again, b) {
		t.Fatalf("PutRec(%+v, %+v) = %v, %v, want %v", n, s, again, ok, b)
	}
}

// mustNotGetRec wants bytes to be no record.
func mustNotGetRec(t *testing.T, b []byte) {
	t.Helper()
	if n, s, ok := root.GetRec(b); ok || n != (api.Nonce{}) || len(s.Bytes) != 0 || s.Tag != (api.Pair{}) {
		t.Fatalf("GetRec(%v) = %+v, %+v, %v", b, n, s, ok)
	}
}

func TestRecPlaces(t *testing.T) {
	want := []byte{1, 2, 3, 4, 10, 11, 12, 13, 14, 15, 16, 17}
	want = append(want, sealed().Bytes...)
	want = append(want, 0xe1, 0xe2, 0xe3, 0xe4, 0xe5, 0xe6, 0xe7, 0xe8)
	want = append(want, 0xf1, 0xf2, 0xf3, 0xf4, 0xf5, 0xf6, 0xf7, 0xf8)
	mustRec(t, bare(), sealed(), want)
	mustRec(t, api.Nonce{Slot: api.RootSlot}, api.Sealed{Bytes: make([]byte, 32)}, make([]byte, 60))
	full := bytes.Repeat([]byte{255}, 60)
	n := api.Nonce{Epoch: math.MaxUint32, Slot: api.RootSlot, Version: math.MaxUint64}
	mustRec(t, n, api.Sealed{Bytes: full[:32], Tag: api.Pair{math.MaxUint64, math.MaxUint64}}, full)
}

func TestRecEachNumber(t *testing.T) {
	for _, x := range words() {
		n, high, low := bare(), sealed(), sealed()
		n.Version, high.Tag[0], low.Tag[1] = x, x, x
		mustRec(t, n, sealed(), laidRec(n, sealed()))
		mustRec(t, bare(), high, laidRec(bare(), high))
		mustRec(t, bare(), low, laidRec(bare(), low))
	}
	n := bare()
	for _, n.Epoch = range halves() {
		mustRec(t, n, sealed(), laidRec(n, sealed()))
	}
	for at := range 32 {
		s := sealed()
		for x := range 256 {
			s.Bytes[at] = byte(x)
			mustRec(t, bare(), s, laidRec(bare(), s))
		}
	}
}

func TestRecOfOtherLengths(t *testing.T) {
	s := sealed()
	row := append(s.Bytes, make([]byte, 70)...)
	for n := range len(row) {
		if s.Bytes = row[:n]; n != api.RootSize {
			mustNotRec(t, bare(), s)
			s.Bytes = bytes.Clone(row[:n])
			mustNotRec(t, bare(), s)
		}
	}
	for _, s.Bytes = range [][]byte{nil, {}, make([]byte, api.RecSize), make([]byte, 4096)} {
		mustNotRec(t, bare(), s)
		mustNotRec(t, api.Nonce{}, s)
		mustNotRec(t, api.Nonce{Slot: api.RootSlot}, api.Sealed{Bytes: s.Bytes})
	}
}

func TestRecOfOtherSlots(t *testing.T) {
	n := bare()
	for slot := range uint32(1 << 17) {
		if n.Slot = slot; slot != api.RootSlot {
			mustNotRec(t, n, sealed())
		}
	}
	for _, n.Slot = range []uint32{1<<17 - 1, 1<<31 | 65535, ^uint32(65535), math.MaxUint32 - 1, math.MaxUint32} {
		mustNotRec(t, n, sealed())
		mustNotRec(t, api.Nonce{Slot: n.Slot}, api.Sealed{Bytes: make([]byte, 32)})
	}
	for digit := range 32 {
		n.Slot = api.RootSlot ^ 1<<digit
		mustNotRec(t, n, sealed())
	}
}

func TestGetRecOfOtherLengths(t *testing.T) {
	mustNotGetRec(t, nil)
	mustNotGetRec(t, []byte{})
	b := laidRec(bare(), sealed())
	row := append(bytes.Clone(b), make([]byte, 70)...)
	for n := range len(row) {
		if n != api.RecSize {
			mustNotGetRec(t, row[:n])
			mustNotGetRec(t, bytes.Clone(row[:n]))
		}
	}
	mustNotGetRec(t, append([]byte{0}, b...))
	mustNotGetRec(t, b[1:])
	mustNotGetRec(t, append(b, b...))
}

func TestGetRecReadsNoSpareRoom(t *testing.T) {
	b := roomy(laidRec(bare(), sealed()))
	mustGetRec(t, b)
	mustNotGetRec(t, b[:59])
	mustNotGetRec(t, b[:0])
}

func TestGetRecOfEachByteTurned(t *testing.T) {
	b := laidRec(bare(), sealed())
	for at, was := range b {
		for x := range 256 {
			b[at] = byte(x)
			mustGetRec(t, b)
		}
		b[at] = was
	}
	for x := range 256 {
		mustGetRec(t, bytes.Repeat([]byte{byte(x)}, 60))
	}
}

// source makes numbers one behind the other.
type source uint64

// next is its next number below n.
func (s *source) next(n int) int {
	*s = *s*6364136223846793005 + 1442695040888963407
	return int(uint64(*s) >> 33 % uint64(n))
}

// row is n bytes of any kind.
func (s *source) row(n int) []byte {
	b := make([]byte, n)
	for i := range b {
		b[i] = byte(s.next(256))
	}
	return b
}

func TestLongRowOfBytes(t *testing.T) {
	s, seen := source(16), map[int]int{}
	for range 20000 {
		b := s.row(32)
		lay(b[12:16], uint64(s.next(20)))
		if s.next(10) == 0 {
			b[12+s.next(3)] = byte(s.next(3))
		}
		mustGet(t, b)
		r, ok := root.Get(b)
		seen[r.Slots]++
		if ok {
			mustBe(t, r, b)
		}
		mustGetRec(t, s.row(60))
	}
	for _, n := range append(slots(), 0) {
		if seen[n] == 0 {
			t.Fatalf("seen: %v", seen)
		}
	}
}

func TestLongRowOfRoots(t *testing.T) {
	s := source(61)
	word := func() uint64 { return told(s.row(1 + s.next(8))) }
	for range 20000 {
		r := api.Root{Count: word(), Epoch: uint32(word()), Slots: s.next(20), Hash: api.Pair{word(), word()}}
		if slices.Contains(slots(), r.Slots) {
			mustBe(t, r, laid(r))
		} else {
			mustNotBe(t, r)
		}
		n := api.Nonce{Epoch: uint32(word()), Slot: api.RootSlot - uint32(s.next(2)), Version: word()}
		box := api.Sealed{Bytes: s.row(31 + s.next(3)), Tag: api.Pair{word(), word()}}
		if n.Slot == api.RootSlot && len(box.Bytes) == 32 {
			mustRec(t, n, box, laidRec(n, box))
		} else {
			mustNotRec(t, n, box)
		}
	}
}

// roomy is b with spare room behind its end.
func roomy(b []byte) []byte { return append(b, 1, 2, 3, 4, 5, 6, 7, 8)[:len(b)] }

// smear writes over all of b, spare room too.
func smear(b []byte) {
	b = b[:cap(b)]
	for i := range b {
		b[i] = ^b[i]
	}
}

func TestWhatIsHandedInIsNotChanged(t *testing.T) {
	for _, b := range [][]byte{roomy(laid(plain(4))), roomy(laidRec(bare(), sealed()))} {
		was := bytes.Clone(b[:cap(b)])
		for n := range cap(b) + 1 {
			root.Get(b[:n])
			root.GetRec(b[:n])
			root.PutRec(bare(), api.Sealed{Bytes: b[:n]})
			root.PutRec(api.Nonce{}, api.Sealed{Bytes: b[:n]})
		}
		if !bytes.Equal(b[:cap(b)], was) {
			t.Fatalf("from %v changed to %v", was, b[:cap(b)])
		}
	}
}

func TestWhatIsHandedInIsNotKept(t *testing.T) {
	b := roomy(laid(plain(4)))
	r, ok := root.Get(b)
	smear(b)
	if !ok || r != plain(4) {
		t.Fatalf("behind a smear Get = %+v, %v", r, ok)
	}
	mustBe(t, plain(4), laid(plain(4)))
	s := sealed()
	s.Bytes = roomy(s.Bytes)
	b, _ = root.PutRec(bare(), s)
	smear(s.Bytes)
	if !bytes.Equal(b, laidRec(bare(), sealed())) {
		t.Fatalf("behind a smear PutRec = %v", b)
	}
	b = roomy(b)
	n, s, ok := root.GetRec(b)
	smear(b)
	if !ok || n != bare() || !same(s, sealed()) {
		t.Fatalf("behind a smear GetRec = %+v, %+v, %v", n, s, ok)
	}
	mustRec(t, bare(), sealed(), laidRec(bare(), sealed()))
}

// The answers are written over, one behind the other: neither what was handed in nor
// another answer is turned by that.
func TestAnswersAreNewMemory(t *testing.T) {
	for _, r := range roots() {
		first, _ := root.Put(r)
		second, _ := root.Put(r)
		smear(first)
		if !bytes.Equal(second, laid(r)) {
			t.Fatalf("behind a smear of another answer it is %v", second)
		}
		smear(second)
		mustBe(t, r, laid(r))
	}
	s := sealed()
	s.Bytes = roomy(s.Bytes)
	first, _ := root.PutRec(bare(), s)
	second, _ := root.PutRec(bare(), s)
	smear(first)
	if !bytes.Equal(second, laidRec(bare(), sealed())) || !same(s, sealed()) {
		t.Fatalf("behind a smear of another answer it is %v, of %+v", second, s)
	}
	b := roomy(laidRec(bare(), sealed()))
	was := bytes.Clone(b[:cap(b)])
	_, one, _ := root.GetRec(b)
	_, other, _ := root.GetRec(b)
	smear(one.Bytes)
	if !same(other, sealed()) || !bytes.Equal(b[:cap(b)], was) {
		t.Fatalf("behind a smear of another answer it is %+v, of %v", other, b)
	}
	smear(other.Bytes)
	mustGetRec(t, b)
}
