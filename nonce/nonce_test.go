package nonce_test

import (
	"math"
	"testing"

	"lockbox/api"
	"lockbox/nonce"
)

// What the document names, written out, so that no constant of the program's decides.
const (
	each     = 100        // numbers of a maker
	lastSlot = 65535      // the greatest slot
	lastBoot = 4294967295 // the greatest boot: 2^32 - 1
)

// boots has those at both ends, at single digits, and without a pattern, each once.
func boots() []uint64 {
	l := []uint64{0, 3, 99, 100, 101, 65535, 0x89abcdef, lastBoot - 1, lastBoot}
	for i := range 32 {
		l = append(l, 1<<i)
	}
	return l
}

// noBoots has those that are none, next to the bound and at single digits.
func noBoots() []uint64 {
	l := []uint64{lastBoot + 2, 1<<33 - 1, math.MaxUint64 - 1, math.MaxUint64, lastBoot << 32, 1<<63 + 1}
	for i := 32; i < 64; i++ {
		l = append(l, 1<<i)
	}
	return l
}

// noSlots has those that are none, the ones of which the lowest 16 or 32 digits are a slot too.
func noSlots() []int {
	return []int{
		-1, -2, -lastSlot, -lastSlot - 1, -1 << 31, -1 << 32, -1<<32 + 5, math.MinInt64, math.MinInt64 + 5,
		lastSlot + 1, lastSlot + 2, 1<<17 + 5, 1<<31 - 1, 1 << 31, 1<<32 - 1, 1 << 32, 1<<32 + 5, math.MaxInt64 - 1, math.MaxInt64,
	}
}

// mustMake wants a maker with all its numbers.
func mustMake(t *testing.T, boot uint64) *nonce.Maker {
	t.Helper()
	m, e := nonce.New(boot)
	if m == nil || e != api.OK {
		t.Fatalf("New of boot %d = %v, %v, want a maker", boot, m, e)
	}
	mustHaveLeft(t, m, each)
	return m
}

// mustHaveLeft wants so many left, asked twice.
func mustHaveLeft(t *testing.T, m *nonce.Maker, want int) {
	t.Helper()
	for range 2 {
		if got := m.Left(); got != want {
			t.Fatalf("Left = %d, want %d", got, want)
		}
	}
}

// mustGive wants the number that is that one of its maker, 1, 2 .., and one fewer left.
func mustGive(t *testing.T, m *nonce.Maker, boot uint64, epoch uint32, slot, which int) api.Nonce {
	t.Helper()
	want := api.Nonce{Epoch: epoch, Slot: uint32(slot), Version: boot*4294967296 + uint64(which)}
	n, e := m.Next(epoch, slot)
	if e != api.OK || n != want {
		t.Fatalf("Next of boot %d, epoch %d, slot %d = %v, %v, want %v", boot, epoch, slot, n, e, want)
	}
	if got := nonce.Boot(n); got != boot {
		t.Fatalf("Boot of %v = %d, want %d", n, got, boot)
	}
	mustHaveLeft(t, m, each-which)
	return n
}

// mustRefuse wants this error, an empty number, and as many left as before.
func mustRefuse(t *testing.T, m *nonce.Maker, epoch uint32, slot int, want api.Errno) {
	t.Helper()
	left := m.Left()
	for range 2 {
		if n, e := m.Next(epoch, slot); e != want || n != (api.Nonce{}) {
			t.Fatalf("Next of epoch %d, slot %d with %d left = %v, %v, want an empty one, %v", epoch, slot, left, n, e, want)
		}
	}
	mustHaveLeft(t, m, left)
}

// spent is a maker that gave all its numbers.
func spent(t *testing.T, boot uint64) *nonce.Maker {
	t.Helper()
	m := mustMake(t, boot)
	for i := range each {
		mustGive(t, m, boot, 1, 2, i+1)
	}
	return m
}

// P9.1: New

func TestExample(t *testing.T) {
	n, e := mustMake(t, 2).Next(0, 0)
	if e != api.OK || n.Version != 1<<33+1 {
		t.Errorf("boot 2: the first Version is %d, %v, want 2^33 + 1", n.Version, e)
	}
}

func TestNewRefusesWhatIsNoBoot(t *testing.T) {
	for _, boot := range noBoots() {
		if m, e := nonce.New(boot); m != nil || e != api.ErrArg {
			t.Errorf("New of boot %d = %v, %v, want no maker, ErrArg", boot, m, e)
		}
	}
}

func TestEachBootHasAllNumbers(t *testing.T) {
	for _, boot := range boots() {
		m := mustMake(t, boot)
		for i := range each {
			mustGive(t, m, boot, 7, 3, i+1)
		}
		mustRefuse(t, m, 7, 3, api.ErrExhausted)
	}
}

func TestLimitsAreTheDocuments(t *testing.T) {
	if api.MaxSeq != each || api.RootSlot != lastSlot {
		t.Errorf("MaxSeq is %d, RootSlot %d", api.MaxSeq, api.RootSlot)
	}
}

// P9.1: Next

func TestNextOfKnownValues(t *testing.T) {
	m := mustMake(t, lastBoot)
	for i, x := range []struct {
		epoch uint32
		slot  int
		want  api.Nonce
	}{
		{0, 0, api.Nonce{Epoch: 0, Slot: 0, Version: 0xffffffff_00000001}},
		{1, 2, api.Nonce{Epoch: 1, Slot: 2, Version: 0xffffffff_00000002}},
		{math.MaxUint32, lastSlot, api.Nonce{Epoch: 0xffffffff, Slot: 0xffff, Version: 0xffffffff_00000003}},
		{1, 2, api.Nonce{Epoch: 1, Slot: 2, Version: 0xffffffff_00000004}},
	} {
		if n, e := m.Next(x.epoch, x.slot); e != api.OK || n != x.want {
			t.Errorf("%d: Next = %v, %v, want %v", i, n, e, x.want)
		}
	}
	mustHaveLeft(t, m, 96)
}

func TestNextOfManyEpochsAndSlots(t *testing.T) {
	epochs := []uint32{0, 1, 2, 65535, 65536, 1 << 31, math.MaxUint32 - 1, math.MaxUint32}
	slots := []int{0, 1, 2, 15, 16, 255, 256, 32767, 32768, lastSlot - 1, lastSlot}
	m, which := mustMake(t, 5), 0
	for _, epoch := range epochs {
		for _, slot := range slots {
			which++
			mustGive(t, m, 5, epoch, slot, which)
		}
	}
}

func TestNextOfAllSlots(t *testing.T) {
	for from := 0; from <= lastSlot; from += each {
		m := mustMake(t, 9)
		for i := range min(each, lastSlot+1-from) {
			mustGive(t, m, 9, 4, from+i, i+1)
		}
	}
}

func TestNextRefusesWhatIsNoSlot(t *testing.T) {
	m := mustMake(t, 3)
	for i := range each {
		for _, slot := range noSlots() {
			mustRefuse(t, m, uint32(i), slot, api.ErrArg)
		}
		mustGive(t, m, 3, uint32(i), i, i+1)
	}
}

func TestNextOfASpentMaker(t *testing.T) {
	for _, boot := range []uint64{0, 1, lastBoot} {
		m := spent(t, boot)
		for range 2 * each {
			mustRefuse(t, m, 1, 2, api.ErrExhausted)
		}
		for _, slot := range []int{0, 1, lastSlot} {
			mustRefuse(t, m, math.MaxUint32, slot, api.ErrExhausted)
		}
		mustHaveLeft(t, m, 0)
	}
}

func TestNoSlotComesAheadOfNoneLeft(t *testing.T) {
	m := spent(t, 6)
	for _, slot := range noSlots() {
		mustRefuse(t, m, 1, slot, api.ErrArg)
		mustRefuse(t, m, 1, 2, api.ErrExhausted)
	}
}

// P9.1: Boot

func TestBootIsTheVersionMovedDown(t *testing.T) {
	lows := []uint64{0, 1, 2, 100, 101, 1 << 31, 1<<32 - 2, 1<<32 - 1}
	for _, boot := range boots() {
		for _, low := range lows {
			for _, n := range []api.Nonce{{}, {Epoch: 1, Slot: 2}, {Epoch: math.MaxUint32, Slot: math.MaxUint32}} {
				n.Version = boot*4294967296 + low
				if got := nonce.Boot(n); got != boot {
					t.Errorf("Boot of %v = %d, want %d", n, got, boot)
				}
			}
		}
	}
}

func TestBootOfKnownValues(t *testing.T) {
	for _, x := range []struct{ version, want uint64 }{
		{0, 0},
		{1, 0},
		{0xffffffff, 0},
		{0x1_00000000, 1},
		{0x2_00000001, 2},
		{0x01234567_89abcdef, 0x01234567},
		{0x7fffffff_ffffffff, 0x7fffffff},
		{0x80000000_00000000, 0x80000000},
		{0xfffffffe_ffffffff, 0xfffffffe},
		{0xffffffff_00000000, 0xffffffff},
		{0xffffffff_ffffffff, 0xffffffff},
	} {
		if got := nonce.Boot(api.Nonce{Version: x.version}); got != x.want {
			t.Errorf("Boot of Version %#x = %#x, want %#x", x.version, got, x.want)
		}
	}
}

// P9.2

// mustBeNew wants a number that seen has not, and lays it there.
func mustBeNew(t *testing.T, seen map[api.Nonce]int, n api.Nonce) {
	t.Helper()
	seen[n]++
	if seen[n] > 1 {
		t.Fatalf("%v is given twice", n)
	}
}

func TestNoTwoNumbersAreTheSame(t *testing.T) {
	// One epoch and one slot: the Version alone tells them apart.
	seen := map[api.Nonce]int{}
	for _, boot := range boots() {
		m := mustMake(t, boot)
		for i := range each {
			mustBeNew(t, seen, mustGive(t, m, boot, 1, 2, i+1))
		}
	}
	if want := each * len(boots()); len(seen) != want {
		t.Errorf("%d numbers, want %d", len(seen), want)
	}
}

func TestNoTwoNumbersAreTheSameByEpochAndSlot(t *testing.T) {
	// Refused calls between, and going back to an epoch and slot that were there.
	seen := map[api.Nonce]int{}
	for boot := range uint64(50) {
		m := mustMake(t, boot)
		for i := range each {
			mustRefuse(t, m, 1, lastSlot+1, api.ErrArg)
			mustBeNew(t, seen, mustGive(t, m, boot, uint32(i%3), i%2*lastSlot, i+1))
		}
		mustRefuse(t, m, 1, 1, api.ErrExhausted)
	}
}

func TestMakersAreApart(t *testing.T) {
	a, b, twin := mustMake(t, 1), mustMake(t, 2), mustMake(t, 1)
	for i := range each / 2 {
		mustGive(t, a, 1, 7, 3, 2*i+1)
		mustGive(t, b, 2, 7, 3, i+1)
		mustRefuse(t, b, 7, -1, api.ErrArg)
		mustGive(t, a, 1, 7, 3, 2*i+2)
		mustHaveLeft(t, twin, each)
	}
	mustRefuse(t, a, 7, 3, api.ErrExhausted)
	mustHaveLeft(t, b, each/2)
	// A maker of the same boot counts for itself.
	for i := range each {
		mustGive(t, twin, 1, 7, 3, i+1)
	}
	if m, e := nonce.New(lastBoot + 1); m != nil || e != api.ErrArg {
		t.Fatal("a boot that is none")
	}
	mustGive(t, b, 2, 7, 3, each/2+1)
}

func TestWhatWasGivenStays(t *testing.T) {
	m := mustMake(t, 8)
	first := mustGive(t, m, 8, 1, 2, 1)
	was := first
	second := mustGive(t, m, 8, 1, 2, 2)
	second.Version = 0
	mustGive(t, m, 8, 3, 4, 3)
	if first != was {
		t.Errorf("%v became %v", was, first)
	}
}

// mustHaveNone wants a maker of which no number is left.
func mustHaveNone(t *testing.T, m *nonce.Maker) {
	t.Helper()
	mustHaveLeft(t, m, 0)
	for _, slot := range []int{0, 1, lastSlot} {
		mustRefuse(t, m, 0, slot, api.ErrExhausted)
		mustRefuse(t, m, math.MaxUint32, slot, api.ErrExhausted)
	}
	for _, slot := range noSlots() {
		mustRefuse(t, m, 1, slot, api.ErrArg)
	}
	mustHaveLeft(t, m, 0)
}

func TestNilMaker(t *testing.T) { mustHaveNone(t, nil) }

func TestMakerThatNobodyMade(t *testing.T) { mustHaveNone(t, &nonce.Maker{}) }
