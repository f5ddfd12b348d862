package ssd_test

import (
	"bytes"
	"math"
	"slices"
	"testing"

	"lockbox/api"
	"lockbox/power"
	"lockbox/ssd"
)

// mark is what stands in the spare room of what is handed in.
const mark = 0xee

// wideInts has ints as low and as high as one can be, and those of which the
// lowest digits alone would be within.
func wideInts() []int {
	return []int{
		math.MinInt64, math.MinInt64 + 1, -1 << 62, -1<<32 + 1, -1 << 32, -1 << 16, -65535,
		1<<16 + 1, 1 << 31, 1 << 32, 1<<32 + 1, 1 << 62, math.MaxInt64 - 1, math.MaxInt64,
	}
}

// sizes has both ends, and small ones.
func sizes() []int { return []int{0, 1, 2, 3, 8, 100, 760, 65535, 65536} }

// counted is the bytes from, from + 1 .., n of them.
func counted(from byte, n int) []byte {
	b := make([]byte, n)
	for i := range b {
		b[i] = from + byte(i)
	}
	return b
}

// roomy is a copy of b with spare room behind its end, marked.
func roomy(b []byte) []byte {
	all := append(slices.Clone(b), bytes.Repeat([]byte{mark}, 24)...)
	return all[:len(b):len(all)]
}

// whole is b with its spare room.
func whole(b []byte) []byte { return b[:cap(b)] }

// smear overwrites b and its spare room.
func smear(b []byte) {
	for i := range whole(b) {
		whole(b)[i] = 0xdd
	}
}

// made is a new one with its power, which is on.
func made(t *testing.T, size int) (*ssd.SSD, *power.Power) {
	t.Helper()
	p := power.New()
	s := ssd.New(size, p)
	if s == nil {
		t.Fatalf("New(%d) = nil", size)
	}
	return s, p
}

// filled is one whose bytes are those of text, and last.
func filled(t *testing.T, text string) (*ssd.SSD, *power.Power) {
	t.Helper()
	s, p := made(t, len(text))
	mustBack(t, s, text)
	return s, p
}

// mustHave wants these bytes, read as one and each by itself if the power is on,
// and of a copy.
func mustHave(t *testing.T, s *ssd.SSD, on bool, want string) {
	t.Helper()
	if got := s.Size(); got != len(want) {
		t.Fatalf("Size = %d, want %d", got, len(want))
	}
	if got := string(s.Snap()); got != want {
		t.Fatalf("Snap = %q, want %q", got, want)
	}
	if !on {
		mustNotRead(t, s, 0, len(want))
		mustNotRead(t, s, 0, 0)
		return
	}
	mustRead(t, s, 0, want)
	for i := range want {
		mustRead(t, s, i, want[i:i+1])
	}
}

// mustRead wants these bytes from off on.
func mustRead(t *testing.T, s *ssd.SSD, off int, want string) {
	t.Helper()
	if b, ok := s.Read(off, len(want)); !ok || string(b) != want {
		t.Fatalf("Read(%d, %d) = %q, %v, want %q", off, len(want), b, ok, want)
	}
}

// mustNotRead wants nil, false.
func mustNotRead(t *testing.T, s *ssd.SSD, off, n int) {
	t.Helper()
	if b, ok := s.Read(off, n); ok || b != nil {
		t.Fatalf("Read(%d, %d) = %q, %v, want nil, false", off, n, b, ok)
	}
}

// mustWrite wants a Write that is done.
func mustWrite(t *testing.T, s *ssd.SSD, off int, text string) {
	t.Helper()
	if !s.Write(off, []byte(text)) {
		t.Fatalf("Write(%d, %q) = false", off, text)
	}
}

// mustNotWrite wants a Write that is not done, and of which nothing is told.
func mustNotWrite(t *testing.T, s *ssd.SSD, off int, b []byte) {
	t.Helper()
	mustStay(t, s, func() bool { return s.Write(off, b) })
}

// mustBar wants a Barrier that is done.
func mustBar(t *testing.T, s *ssd.SSD) {
	t.Helper()
	if !s.Barrier() {
		t.Fatal("Barrier = false")
	}
}

// mustSmash wants a Smash that is done.
func mustSmash(t *testing.T, s *ssd.SSD, off int, text string) {
	t.Helper()
	if !s.Smash(off, []byte(text)) {
		t.Fatalf("Smash(%d, %q) = false", off, text)
	}
}

// mustBack wants a Back that is done.
func mustBack(t *testing.T, s *ssd.SSD, text string) {
	t.Helper()
	if !s.Back([]byte(text)) {
		t.Fatalf("Back(%q) = false", text)
	}
}

// mustStay wants a call that answers false and changes neither bytes nor Trace.
func mustStay(t *testing.T, s *ssd.SSD, call func() bool) {
	t.Helper()
	was, trace := s.Snap(), s.Trace()
	if call() {
		t.Fatal("a call that should not be done is done")
	}
	if got := s.Snap(); !bytes.Equal(got, was) {
		t.Fatalf("behind a call that is not done: %q, want %q", got, was)
	}
	mustTrace(t, s, trace)
}

// mustTrace wants this Trace.
func mustTrace(t *testing.T, s *ssd.SSD, want []api.Op) {
	t.Helper()
	if got := s.Trace(); !slices.EqualFunc(got, want, sameOp) {
		t.Fatalf("Trace = %v, want %v", got, want)
	}
}

// sameOp says whether both are the same, nil and no bytes too.
func sameOp(a, b api.Op) bool { return a.Off == b.Off && bytes.Equal(a.Bytes, b.Bytes) }

// wrote is the Op of a Write.
func wrote(off int, text string) api.Op { return api.Op{Off: off, Bytes: []byte(text)} }

// bar is the Op of a Barrier.
func bar() api.Op { return api.Op{Off: -1} }

// mustSpend wants so many steps till now.
func mustSpend(t *testing.T, p *power.Power, steps int) {
	t.Helper()
	if got := p.Steps(); got != steps {
		t.Fatalf("Steps = %d, want %d", got, steps)
	}
}

func TestExample(t *testing.T) {
	s, _ := filled(t, "as ahead")
	mustWrite(t, s, 3, "BEHIND"[:5])
	mustHave(t, s, true, "as BEHIN")
	s.Crash(nil)
	mustHave(t, s, true, "as ahead")
}

// P11.1: New and Size

func TestNewIsOfNoughts(t *testing.T) {
	for _, size := range sizes() {
		s, p := made(t, size)
		if s.Size() != size {
			t.Errorf("New(%d): Size = %d", size, s.Size())
		}
		want := make([]byte, size)
		if got := s.Snap(); !bytes.Equal(got, want) {
			t.Errorf("New(%d): Snap is not all noughts, or of %d bytes", size, len(got))
		}
		if got, ok := s.Read(0, size); !ok || !bytes.Equal(got, want) {
			t.Errorf("New(%d): Read is not all noughts, or of %d bytes: %v", size, len(got), ok)
		}
		mustTrace(t, s, nil)
		mustSpend(t, p, 0)
	}
}

func TestNewOfNoSize(t *testing.T) {
	for _, size := range append(wideInts(), -1, -2, 65537, 65538, 1<<17) {
		for _, p := range []*power.Power{power.New(), nil} {
			if s := ssd.New(size, p); s != nil {
				t.Errorf("New(%d) is not nil", size)
			}
		}
	}
}

func TestDevicesAreApart(t *testing.T) {
	p := power.New()
	a, b := ssd.New(4, p), ssd.New(4, p)
	mustWrite(t, a, 0, "aaaa")
	mustHave(t, b, true, "\x00\x00\x00\x00")
	mustWrite(t, b, 1, "bb")
	mustBar(t, b)
	a.Crash(nil)
	mustHave(t, a, true, "\x00\x00\x00\x00")
	mustHave(t, b, true, "\x00bb\x00")
	mustTrace(t, a, []api.Op{wrote(0, "aaaa")})
	mustTrace(t, b, []api.Op{wrote(1, "bb"), bar()})
	mustSpend(t, p, 3)
	mustHave(t, ssd.New(4, p), true, "\x00\x00\x00\x00")
}

// P11.1: within

func TestEveryPlace(t *testing.T) {
	const size = 6
	for off := -3; off <= size+3; off++ {
		for n := 0; n <= size+3; n++ {
			mustKeepWithin(t, size, off, n)
		}
	}
}

func TestPlacesAtTheEnds(t *testing.T) {
	for _, size := range sizes() {
		for _, n := range []int{0, 1, 2, 3, size - 1, size, size + 1, size + 2} {
			if n < 0 {
				continue
			}
			for _, off := range []int{-1, 0, 1, size - n - 1, size - n, size - n + 1, size, size + 1} {
				mustKeepWithin(t, size, off, n)
			}
		}
	}
}

func TestPlacesFarOff(t *testing.T) {
	for _, size := range sizes() {
		for _, off := range append(wideInts(), 65535, 65536) {
			for _, n := range []int{0, 1, size, 65536} {
				mustKeepWithin(t, size, off, n)
			}
		}
	}
}

// mustKeepWithin wants a Write, a Read and a Smash of n bytes at off to be done,
// if they are within a device of this size, and else not.
func mustKeepWithin(t *testing.T, size, off, n int) {
	t.Helper()
	within := 0 <= off && off <= size && size-off >= n
	s, p := made(t, size)
	b := counted(1, n)
	want := make([]byte, size)
	if within {
		copy(want[off:], b)
	}
	if got := s.Write(off, b); got != within {
		t.Fatalf("size %d: Write of %d bytes at %d = %v", size, n, off, got)
	}
	if got := s.Snap(); !bytes.Equal(got, want) {
		t.Fatalf("size %d: Write of %d bytes at %d lays other bytes", size, n, off)
	}
	steps := 0
	if within {
		steps = 1
	}
	mustSpend(t, p, steps)
	if got := s.Trace(); len(got) != steps || within && !sameOp(got[0], api.Op{Off: off, Bytes: b}) {
		t.Fatalf("size %d: Write of %d bytes at %d has another Trace", size, n, off)
	}
	got, ok := s.Read(off, n)
	if ok != within || within && !bytes.Equal(got, b) || !within && got != nil {
		t.Fatalf("size %d: Read(%d, %d) = %d bytes, %v", size, off, n, len(got), ok)
	}
	mustSpend(t, p, steps)
	o, _ := made(t, size)
	if got := o.Smash(off, b); got != within {
		t.Fatalf("size %d: Smash of %d bytes at %d = %v", size, n, off, got)
	}
	if got := o.Snap(); !bytes.Equal(got, want) {
		t.Fatalf("size %d: Smash of %d bytes at %d lays other bytes", size, n, off)
	}
}

func TestReadOfANumberThatIsNone(t *testing.T) {
	for _, size := range sizes() {
		s, _ := made(t, size)
		for _, n := range append(wideInts(), -1, -2, -size-1, size+1, 65537) {
			// Of an n below 0 the sum of off and n may well be within.
			for _, off := range append(wideInts(), -1, 0, 1, size-1, size, size+1, -n, size-n) {
				mustNotRead(t, s, off, n)
			}
		}
	}
}

// P11.1: Write

func TestWriteIsReadAtOnce(t *testing.T) {
	s, p := filled(t, "abcdefgh")
	mustWrite(t, s, 0, "12")
	mustHave(t, s, true, "12cdefgh")
	mustWrite(t, s, 6, "78")
	mustHave(t, s, true, "12cdef78")
	mustWrite(t, s, 3, "")
	mustHave(t, s, true, "12cdef78")
	mustWrite(t, s, 0, "ABCDEFGH")
	mustHave(t, s, true, "ABCDEFGH")
	mustTrace(t, s, []api.Op{wrote(0, "12"), wrote(6, "78"), wrote(3, ""), wrote(0, "ABCDEFGH")})
	mustSpend(t, p, 4)
}

func TestWritesThatOverlapLieInOrder(t *testing.T) {
	const size = 5
	// Every pair of places, either way round: the later one lies above.
	for a := range size {
		for b := range size {
			for an := 0; a+an <= size; an++ {
				for bn := 0; b+bn <= size; bn++ {
					mustLieInOrder(t, size, a, an, b, bn)
				}
			}
		}
	}
}

// mustLieInOrder wants the second of two Writes above the first, while both wait,
// behind a Barrier and behind a Crash that keeps both.
func mustLieInOrder(t *testing.T, size, a, an, b, bn int) {
	t.Helper()
	want := bytes.Repeat([]byte("."), size)
	for i := range want {
		switch {
		case b <= i && i < b+bn:
			want[i] = 'b'
		case a <= i && i < a+an:
			want[i] = 'a'
		}
	}
	for _, settle := range []func(*ssd.SSD){
		func(s *ssd.SSD) {},
		func(s *ssd.SSD) { s.Barrier() },
		func(s *ssd.SSD) { s.Crash([]bool{true, true}) },
		func(s *ssd.SSD) { s.Smash(0, nil) },
	} {
		s, _ := filled(t, ".....")
		mustWrite(t, s, a, "aaaaa"[:an])
		mustWrite(t, s, b, "bbbbb"[:bn])
		settle(s)
		mustHave(t, s, true, string(want))
	}
}

func TestWriteOfNothingWaits(t *testing.T) {
	for _, none := range [][]byte{nil, {}} {
		s, p := filled(t, "abcd")
		if !s.Write(0, none) || !s.Write(4, none) {
			t.Fatal("Write of nothing = false")
		}
		mustSpend(t, p, 2)
		mustTrace(t, s, []api.Op{wrote(0, ""), wrote(4, "")})
		// It has a place in keep, as every Write that waits.
		mustWrite(t, s, 1, "X")
		s.Crash([]bool{true, true, false})
		mustHave(t, s, true, "abcd")
		mustNotWrite(t, s, 5, none)
		mustNotWrite(t, s, -1, none)
		mustSpend(t, p, 3)
	}
}

func TestWriteThatIsNotWithinSpendsNoStep(t *testing.T) {
	s, p := filled(t, "abcd")
	p.Fuse(1)
	for _, off := range append(wideInts(), -1, 3, 4, 5) {
		mustNotWrite(t, s, off, []byte("XY"))
	}
	mustSpend(t, p, 0)
	if !p.On() {
		t.Fatal("the power is gone")
	}
	mustWrite(t, s, 2, "XY")
	// No step is left, and it does not go by what asks for none.
	mustNotWrite(t, s, 3, []byte("XY"))
	mustHave(t, s, true, "abXY")
	mustNotWrite(t, s, 0, []byte("XY"))
	mustHave(t, s, false, "abXY")
	mustSpend(t, p, 1)
}

// P11.1: Barrier

func TestBarrierHasAllLast(t *testing.T) {
	s, p := filled(t, "abcdef")
	mustWrite(t, s, 0, "12")
	mustWrite(t, s, 1, "34")
	mustWrite(t, s, 5, "5")
	mustBar(t, s)
	mustHave(t, s, true, "134de5")
	s.Crash(nil)
	mustHave(t, s, true, "134de5")
	s.Crash([]bool{true, true, true, true})
	mustHave(t, s, true, "134de5")
	mustTrace(t, s, []api.Op{wrote(0, "12"), wrote(1, "34"), wrote(5, "5"), bar()})
	mustSpend(t, p, 4)
}

func TestBarrierOfNothing(t *testing.T) {
	s, p := filled(t, "abc")
	mustBar(t, s)
	mustBar(t, s)
	mustHave(t, s, true, "abc")
	mustTrace(t, s, []api.Op{bar(), bar()})
	mustSpend(t, p, 2)
}

func TestWhatWaitsBehindABarrier(t *testing.T) {
	s, _ := filled(t, "......")
	mustWrite(t, s, 0, "a")
	mustBar(t, s)
	mustWrite(t, s, 1, "b")
	mustWrite(t, s, 0, "c")
	mustHave(t, s, true, "cb....")
	// The first place in keep is that of the first Write behind the Barrier.
	s.Crash([]bool{true})
	mustHave(t, s, true, "ab....")
	mustWrite(t, s, 2, "d")
	mustBar(t, s)
	mustBar(t, s)
	mustWrite(t, s, 3, "e")
	s.Crash([]bool{false})
	mustHave(t, s, true, "abd...")
	mustTrace(t, s, []api.Op{wrote(0, "a"), bar(), wrote(1, "b"), wrote(0, "c"), wrote(2, "d"), bar(), bar(), wrote(3, "e")})
}

// P11.1: the power

func TestFuseEndsAtAnyStep(t *testing.T) {
	// Of these steps as many are done as the fuse has.
	steps := []struct {
		done api.Op
		has  string
	}{
		{wrote(0, "ab"), "ab.."},
		{wrote(1, "cd"), "acd."},
		{bar(), "acd."},
		{wrote(3, "e"), "acde"},
		{bar(), "acde"},
		{wrote(0, ""), "acde"},
		{wrote(0, "FGHI"), "FGHI"},
	}
	for n := 0; n <= len(steps); n++ {
		s, p := filled(t, "....")
		p.Fuse(n)
		has := "...."
		var trace []api.Op
		for i, x := range steps {
			if got := step(s, x.done); got != (i < n) {
				t.Fatalf("Fuse(%d): step %d = %v", n, i, got)
			}
			if i < n {
				has = x.has
				trace = append(trace, x.done)
			}
			mustHave(t, s, i < n, has)
		}
		mustTrace(t, s, trace)
		mustSpend(t, p, n)
		p.Back()
		mustHave(t, s, true, has)
	}
}

// step does what the Op tells.
func step(s *ssd.SSD, op api.Op) bool {
	if op.Off == -1 {
		return s.Barrier()
	}
	return s.Write(op.Off, op.Bytes)
}

// gone is a power that is.
func gone() *power.Power {
	p := power.New()
	p.Fuse(0)
	p.Spend()
	return p
}

func TestGonePower(t *testing.T) {
	for _, p := range []*power.Power{gone(), nil} {
		s := ssd.New(4, p)
		if s == nil || s.Size() != 4 {
			t.Fatal("New asks for power")
		}
		mustNotWrite(t, s, 0, []byte("a"))
		mustNotWrite(t, s, 0, nil)
		mustNotWrite(t, s, 9, nil)
		mustStay(t, s, s.Barrier)
		mustNotRead(t, s, 0, 1)
		mustNotRead(t, s, 0, 0)
		mustNotRead(t, s, 4, 0)
		mustNotRead(t, s, 5, 0)
		mustHave(t, s, false, "\x00\x00\x00\x00")
		mustTrace(t, s, nil)
	}
}

func TestWhatIsNotDoneWaitsForNothing(t *testing.T) {
	s, p := filled(t, "....")
	mustWrite(t, s, 0, "a")
	p.Fuse(0)
	mustNotWrite(t, s, 1, []byte("b"))
	mustNotWrite(t, s, 1, []byte("b"))
	mustStay(t, s, s.Barrier)
	p.Back()
	mustNotWrite(t, s, 4, []byte("c"))
	mustWrite(t, s, 2, "d")
	mustHave(t, s, true, "a.d.")
	mustTrace(t, s, []api.Op{wrote(0, "a"), wrote(2, "d")})
	// Nor has any of these a place in keep; and what waited still does.
	s.Crash([]bool{false, true})
	mustHave(t, s, true, "..d.")
}

func TestBarrierThatIsNotDoneLeavesAllWaiting(t *testing.T) {
	for _, keep := range [][]bool{nil, {true}, {false, true}, {true, true}} {
		s, p := filled(t, "....")
		mustWrite(t, s, 0, "a")
		mustWrite(t, s, 1, "b")
		p.Fuse(0)
		mustStay(t, s, s.Barrier)
		mustStay(t, s, s.Barrier)
		s.Crash(keep)
		want := []byte("....")
		for i, k := range keep {
			if k {
				want[i] = "ab"[i]
			}
		}
		mustHave(t, s, false, string(want))
		p.Back()
		mustHave(t, s, true, string(want))
	}
}

func TestReadSpendsNoStep(t *testing.T) {
	s, p := filled(t, "abcd")
	p.Fuse(1)
	for range 50 {
		mustRead(t, s, 0, "abcd")
	}
	mustWrite(t, s, 0, "x")
	// The last step of the fuse was done: it is on till the next one.
	for range 50 {
		mustRead(t, s, 0, "xbcd")
		mustNotRead(t, s, 0, 5)
	}
	mustSpend(t, p, 1)
	mustNotWrite(t, s, 0, []byte("y"))
	mustNotRead(t, s, 0, 4)
	mustTrace(t, s, []api.Op{wrote(0, "x")})
}

// P11.1: Trace

func TestTraceOfManyWrites(t *testing.T) {
	s, p := made(t, 300)
	var want []api.Op
	for i := range 300 {
		b := counted(byte(i), i%5)
		if i%7 == 6 {
			mustBar(t, s)
			want = append(want, bar())
			continue
		}
		mustWrite(t, s, i-i%5, string(b))
		want = append(want, api.Op{Off: i - i%5, Bytes: b})
	}
	mustTrace(t, s, want)
	mustSpend(t, p, 300)
	s.Crash(nil)
	mustTrace(t, s, want)
}

func TestTraceOfABarrierHasNoBytes(t *testing.T) {
	s, _ := filled(t, "ab")
	mustWrite(t, s, 0, "x")
	mustBar(t, s)
	if op := s.Trace()[1]; op.Off != -1 || len(op.Bytes) != 0 {
		t.Errorf("a Barrier in a Trace = %d, %q", op.Off, op.Bytes)
	}
}

func TestEarlierTraceStays(t *testing.T) {
	s, _ := filled(t, "abcd")
	mustWrite(t, s, 0, "x")
	first := s.Trace()
	mustWrite(t, s, 0, "y")
	mustBar(t, s)
	s.Crash(nil)
	if len(first) != 1 || !sameOp(first[0], wrote(0, "x")) {
		t.Errorf("an earlier Trace = %v", first)
	}
}

// P11.2: Crash

func TestCrashOfEveryKeep(t *testing.T) {
	writes := []api.Op{wrote(0, "ab"), wrote(1, "cd"), wrote(0, "e"), wrote(2, "fg")}
	for n := 0; n <= len(writes)+2; n++ {
		for digits := range 1 << n {
			keep := make([]bool, n)
			want := []byte("....")
			for i := range keep {
				keep[i] = digits>>i&1 == 1
				if keep[i] && i < len(writes) {
					copy(want[writes[i].Off:], writes[i].Bytes)
				}
			}
			s, p := filled(t, "....")
			for _, x := range writes {
				mustWrite(t, s, x.Off, string(x.Bytes))
			}
			mustHave(t, s, true, "ecfg")
			s.Crash(keep)
			mustHave(t, s, true, string(want))
			mustTrace(t, s, writes)
			mustSpend(t, p, len(writes))
			mustWaitForNothing(t, s)
		}
	}
}

// mustWaitForNothing wants the same behind a Crash that would keep all.
func mustWaitForNothing(t *testing.T, s *ssd.SSD) {
	t.Helper()
	want := s.Snap()
	s.Crash(slices.Repeat([]bool{true}, 40))
	if got := s.Snap(); !bytes.Equal(got, want) {
		t.Fatalf("something waited: %q, want %q", got, want)
	}
	// The next Write has the first place in keep.
	if len(want) > 0 {
		mustWrite(t, s, 0, string([]byte{^want[0]}))
		s.Crash([]bool{false, true, true, true, true, true})
		if got := s.Snap(); !bytes.Equal(got, want) {
			t.Fatalf("something waited ahead of a Write: %q, want %q", got, want)
		}
	}
}

func TestCrashWhereNothingWaits(t *testing.T) {
	for _, keep := range [][]bool{nil, {}, {true}, {false}, {true, true, true}} {
		s, p := filled(t, "abcd")
		s.Crash(keep)
		mustHave(t, s, true, "abcd")
		mustWrite(t, s, 0, "x")
		mustBar(t, s)
		s.Crash(keep)
		mustHave(t, s, true, "xbcd")
		s.Crash(keep)
		mustHave(t, s, true, "xbcd")
		mustTrace(t, s, []api.Op{wrote(0, "x"), bar()})
		mustSpend(t, p, 2)
	}
}

func TestCrashUncoversWhatLiesBelow(t *testing.T) {
	s, _ := filled(t, "....")
	mustWrite(t, s, 0, "aaaa")
	mustWrite(t, s, 1, "bb")
	mustHave(t, s, true, "abba")
	s.Crash([]bool{true, false})
	mustHave(t, s, true, "aaaa")
	mustWrite(t, s, 2, "c")
	mustWrite(t, s, 2, "d")
	s.Crash([]bool{false, true})
	mustHave(t, s, true, "aada")
}

func TestCrashes(t *testing.T) {
	s, _ := filled(t, "....")
	mustWrite(t, s, 0, "a")
	s.Crash([]bool{true})
	mustWrite(t, s, 1, "b")
	s.Crash(nil)
	mustWrite(t, s, 2, "c")
	mustWrite(t, s, 3, "d")
	s.Crash([]bool{false, true})
	mustHave(t, s, true, "a..d")
	mustWaitForNothing(t, s)
}

// P11.2: Smash

func TestSmashHasWhatWaitsLast(t *testing.T) {
	s, p := filled(t, "......")
	mustWrite(t, s, 0, "ab")
	mustWrite(t, s, 1, "cd")
	mustSmash(t, s, 2, "XY")
	mustHave(t, s, true, "acXY..")
	s.Crash(nil)
	mustHave(t, s, true, "acXY..")
	mustWaitForNothing(t, s)
	mustSpend(t, p, 3)
}

func TestSmashLiesBelowWhatIsWrittenBehindIt(t *testing.T) {
	s, _ := filled(t, "....")
	mustSmash(t, s, 0, "XXXX")
	mustWrite(t, s, 1, "a")
	mustHave(t, s, true, "XaXX")
	s.Crash(nil)
	mustHave(t, s, true, "XXXX")
	mustWrite(t, s, 1, "b")
	mustBar(t, s)
	s.Crash(nil)
	mustHave(t, s, true, "XbXX")
}

func TestSmashOfNothing(t *testing.T) {
	for _, none := range [][]byte{nil, {}} {
		for _, off := range []int{0, 2, 4} {
			s, _ := filled(t, "....")
			mustWrite(t, s, 0, "ab")
			if !s.Smash(off, none) {
				t.Fatalf("Smash of nothing at %d = false", off)
			}
			mustHave(t, s, true, "ab..")
			// It has all that waits last, as any Smash.
			s.Crash(nil)
			mustHave(t, s, true, "ab..")
		}
	}
}

func TestSmashThatIsNotWithin(t *testing.T) {
	for _, off := range append(wideInts(), -1, 5) {
		mustNotSmash(t, off, nil)
		mustNotSmash(t, off, []byte("X"))
		mustNotSmash(t, off, []byte("WXYZ"))
	}
	mustNotSmash(t, 4, []byte("X"))
	mustNotSmash(t, 3, []byte("XY"))
	mustNotSmash(t, 1, []byte("WXYZ"))
	mustNotSmash(t, 0, []byte("VWXYZ"))
}

// mustNotSmash wants a Smash of a device of 4 bytes that is not done, behind which
// what waited still does.
func mustNotSmash(t *testing.T, off int, b []byte) {
	t.Helper()
	s, _ := filled(t, "....")
	mustWrite(t, s, 0, "ab")
	mustStay(t, s, func() bool { return s.Smash(off, b) })
	s.Crash(nil)
	mustHave(t, s, true, "....")
}

// P11.2: Snap and Back

func TestSnapIsAsItIsRead(t *testing.T) {
	s, p := filled(t, "....")
	for i, x := range []struct {
		off  int
		text string
		want string
	}{{0, "ab", "ab.."}, {1, "cd", "acd."}, {3, "e", "acde"}, {2, "", "acde"}} {
		mustWrite(t, s, x.off, x.text)
		if got := string(s.Snap()); got != x.want {
			t.Errorf("Snap behind Write %d = %q, want %q", i, got, x.want)
		}
	}
	// A Snap has nothing last.
	s.Crash(nil)
	mustHave(t, s, true, "....")
	mustSpend(t, p, 4)
}

func TestBackIsWhatLasts(t *testing.T) {
	s, _ := filled(t, "old.")
	old := s.Snap()
	mustWrite(t, s, 0, "new!")
	mustBar(t, s)
	mustWrite(t, s, 1, "x")
	mustHave(t, s, true, "nxw!")
	if !s.Back(old) {
		t.Fatal("Back = false")
	}
	mustHave(t, s, true, "old.")
	mustWaitForNothing(t, s)
	mustBack(t, s, "more")
	s.Crash(nil)
	mustHave(t, s, true, "more")
}

func TestBackOfAnotherSize(t *testing.T) {
	for _, size := range []int{0, 1, 4, 760, 65536} {
		s, _ := made(t, size)
		if size > 0 {
			mustWrite(t, s, 0, "x")
		}
		for _, n := range []int{0, 1, size - 1, size + 1, 2 * size, 65535, 65536, 65537} {
			if n == size || n < 0 {
				continue
			}
			mustStay(t, s, func() bool { return s.Back(counted(1, n)) })
		}
		// What waited still does.
		s.Crash(nil)
		if got := s.Snap(); !bytes.Equal(got, make([]byte, size)) {
			t.Errorf("size %d: a Back of another size had something last", size)
		}
	}
}

func TestBackOfEverySize(t *testing.T) {
	for _, size := range sizes() {
		s, p := made(t, size)
		b := counted(3, size)
		if !s.Back(b) {
			t.Fatalf("size %d: Back = false", size)
		}
		if got, ok := s.Read(0, size); !ok || !bytes.Equal(got, b) || !bytes.Equal(s.Snap(), b) {
			t.Errorf("size %d: other bytes behind a Back", size)
		}
		mustTrace(t, s, nil)
		mustSpend(t, p, 0)
	}
	s, _ := made(t, 0)
	if !s.Back(nil) || !s.Back([]byte{}) || len(s.Snap()) != 0 {
		t.Error("size 0: Back of nothing")
	}
}

func TestBackOfNoBytesHasNothingWait(t *testing.T) {
	s, _ := made(t, 0)
	mustWrite(t, s, 0, "")
	mustBack(t, s, "")
	mustBar(t, s)
	mustTrace(t, s, []api.Op{wrote(0, ""), bar()})
}

// P11.2: no power, no Trace

func TestTheFoeAsksNoPower(t *testing.T) {
	for _, lost := range []bool{false, true} {
		s, p := filled(t, "....")
		mustWrite(t, s, 0, "ab")
		mustWrite(t, s, 1, "c")
		trace := s.Trace()
		p.Fuse(0)
		if lost {
			p.Spend()
		}
		s.Crash([]bool{true})
		mustHave(t, s, !lost, "ab..")
		mustSmash(t, s, 3, "X")
		mustHave(t, s, !lost, "ab.X")
		mustBack(t, s, "back")
		mustHave(t, s, !lost, "back")
		mustSmash(t, s, 0, "B")
		mustHave(t, s, !lost, "Back")
		mustTrace(t, s, trace)
		mustSpend(t, p, 2)
		if p.On() == lost {
			t.Fatal("the power was asked")
		}
	}
}

func TestTheFoeOfADeviceWithoutPower(t *testing.T) {
	s := ssd.New(4, nil)
	mustSmash(t, s, 1, "XY")
	mustHave(t, s, false, "\x00XY\x00")
	s.Crash([]bool{true})
	mustHave(t, s, false, "\x00XY\x00")
	mustBack(t, s, "back")
	mustHave(t, s, false, "back")
	mustStay(t, s, func() bool { return s.Smash(4, []byte("Z")) })
	mustStay(t, s, func() bool { return s.Back([]byte("toolong")) })
	mustTrace(t, s, nil)
}

// P11.1, P11.2: every row of a few calls

// act is a call of a row, and what it answered.
type act struct {
	kind int
	off  int
	b    []byte
	keep []bool
	done bool
}

const (
	write = iota
	barrier
	crash
	smash
	back
	fuse
	restore
)

// seen is the byte at place i behind these acts, told from the last one back: a
// Write that was done is seen, if what ended its wait has it last, or nothing did.
func seen(l []act, i int) byte {
	ended := -1
	for j := len(l) - 1; j >= 0; j-- {
		x := l[j]
		covers := x.off <= i && i < x.off+len(x.b)
		switch {
		case !x.done:
		case x.kind == back:
			return x.b[i]
		case x.kind == smash && covers:
			return x.b[i-x.off]
		case x.kind == smash || x.kind == barrier || x.kind == crash:
			ended = j
		case x.kind == write && covers && lasts(l, j, ended):
			return x.b[i-x.off]
		}
	}
	return 0
}

// lasts says whether the Write at j is seen, whose wait was ended at that place.
func lasts(l []act, j, ended int) bool {
	if ended < 0 || l[ended].kind != crash {
		return true
	}
	place := 0
	for k := j - 1; k >= 0; k-- {
		x := l[k]
		if x.done && x.kind == write {
			place++
		}
		if x.done && (x.kind == barrier || x.kind == crash || x.kind == smash || x.kind == back) {
			break
		}
	}
	keep := l[ended].keep
	return place < len(keep) && keep[place]
}

// mains tells of the power behind these acts how many steps there were, how many
// its fuse has left (below 0: it has none), and whether it is on.
func mains(l []act) (steps, left int, on bool) {
	left, on = -1, true
	for _, x := range l {
		asks := x.kind == barrier || x.kind == write && x.off >= 0
		switch {
		case x.kind == restore:
			left, on = -1, true
		case x.kind == fuse:
			left = x.off
		case asks && x.done:
			steps++
			left = max(left-1, -1)
		case asks:
			on = false
		}
	}
	return steps, left, on
}

// may says whether an act is done behind these.
func may(l []act, size int, x act) bool {
	within := x.off >= 0 && x.off+len(x.b) <= size
	_, left, on := mains(l)
	switch x.kind {
	case write:
		return within && on && left != 0
	case barrier:
		return on && left != 0
	case smash:
		return within
	case back:
		return len(x.b) == size
	}
	return true
}

// do does an act, and tells what it answers.
func do(s *ssd.SSD, p *power.Power, x act) bool {
	switch x.kind {
	case write:
		return s.Write(x.off, x.b)
	case barrier:
		return s.Barrier()
	case crash:
		s.Crash(x.keep)
	case smash:
		return s.Smash(x.off, x.b)
	case back:
		return s.Back(x.b)
	case fuse:
		p.Fuse(x.off)
	case restore:
		p.Back()
	}
	return true
}

// replay wants of a new device what the acts tell, read from the last one back.
func replay(t *testing.T, size int, l []act) {
	t.Helper()
	s, p := made(t, size)
	var trace []api.Op
	for i := range l {
		x := &l[i]
		x.done = may(l[:i], size, *x)
		if got := do(s, p, *x); got != x.done {
			t.Fatalf("%v: act %d = %v", l, i, got)
		}
		switch {
		case x.done && x.kind == write:
			trace = append(trace, api.Op{Off: x.off, Bytes: x.b})
		case x.done && x.kind == barrier:
			trace = append(trace, bar())
		}
	}
	want := make([]byte, size)
	for i := range want {
		want[i] = seen(l, i)
	}
	n, _, on := mains(l)
	if got := s.Snap(); !bytes.Equal(got, want) {
		t.Fatalf("%v: Snap = %v, want %v", l, got, want)
	}
	if got, ok := s.Read(0, size); ok != on || on && !bytes.Equal(got, want) || !on && got != nil {
		t.Fatalf("%v: Read = %v, %v, want %v, %v", l, got, ok, want, on)
	}
	if got := s.Trace(); !slices.EqualFunc(got, trace, sameOp) {
		t.Fatalf("%v: Trace = %v, want %v", l, got, trace)
	}
	if p.Steps() != n {
		t.Fatalf("%v: Steps = %d, want %d", l, p.Steps(), n)
	}
}

// acts has those of a row at this place: what they lay tells the place.
func acts(place int) []act {
	b := counted(byte(16*place+1), 4)
	return []act{
		{kind: write, off: 0, b: b[:2]},
		{kind: write, off: 1, b: b[:2]},
		{kind: write, off: -1, b: b[:1]},
		{kind: barrier},
		{kind: crash},
		{kind: crash, keep: []bool{true}},
		{kind: crash, keep: []bool{false, true, true}},
		{kind: smash, off: 1, b: b[:1]},
		{kind: smash, off: -1},
		{kind: back, b: b[:3]},
		{kind: back, b: b},
		{kind: fuse, off: 1},
		{kind: restore},
	}
}

// everyRow replays all rows of so many acts that begin so.
func everyRow(t *testing.T, l []act, size int) {
	t.Helper()
	if len(l) == size {
		replay(t, 3, l)
		return
	}
	for _, x := range acts(len(l)) {
		everyRow(t, append(l, x), size)
	}
}

func TestEveryRowOfActs(t *testing.T) {
	for size := range 5 {
		everyRow(t, nil, size)
	}
}

func TestLongRowsOfActs(t *testing.T) {
	digits := uint64(1)
	for range 3000 {
		var l []act
		for i := range 14 {
			digits = digits*6364136223846793005 + 1442695040888963407
			kinds := acts(i)
			l = append(l, kinds[digits>>33%uint64(len(kinds))])
		}
		replay(t, 3, l)
	}
}

// P11.3: what is handed in

func TestWhatIsHandedInIsNotChanged(t *testing.T) {
	s, _ := filled(t, "........")
	b, keep := roomy([]byte("abcdefgh")), []bool{true, false, true, true}
	for _, call := range []func(){
		func() { s.Write(0, b) },
		func() { s.Write(2, b[:3]) },
		func() { s.Write(1, b) },
		func() { s.Smash(0, b) },
		func() { s.Smash(2, b[:3]) },
		func() { s.Smash(1, b) },
		func() { s.Back(b) },
		func() { s.Back(b[:7]) },
		func() { s.Barrier() },
		func() { s.Write(0, b[1:4]); s.Crash(keep[:2]) },
	} {
		call()
		mustWrite(t, s, 0, "XXXXXXXX")
		mustBar(t, s)
		mustSmash(t, s, 0, "YYYYYYYY")
		mustBack(t, s, "ZZZZZZZZ")
		if want := "abcdefgh" + string(bytes.Repeat([]byte{mark}, 24)); string(whole(b)) != want {
			t.Fatalf("what was handed in = %q", whole(b))
		}
		if !slices.Equal(keep, []bool{true, false, true, true}) {
			t.Fatalf("keep = %v", keep)
		}
	}
}

func TestWhatIsHandedInIsNotKept(t *testing.T) {
	s, _ := filled(t, "........")
	w := roomy([]byte("abc"))
	if !s.Write(0, w) {
		t.Fatal("Write = false")
	}
	smear(w)
	mustHave(t, s, true, "abc.....")
	mustTrace(t, s, []api.Op{wrote(0, "abc")})
	keep := []bool{true}
	s.Crash(keep)
	keep[0] = false
	mustHave(t, s, true, "abc.....")
	m := roomy([]byte("XY"))
	if !s.Smash(2, m) {
		t.Fatal("Smash = false")
	}
	smear(m)
	mustHave(t, s, true, "abXY....")
	old := roomy([]byte("12345678"))
	if !s.Back(old) {
		t.Fatal("Back = false")
	}
	smear(old)
	mustHave(t, s, true, "12345678")
	mustTrace(t, s, []api.Op{wrote(0, "abc")})
}

func TestOneListWrittenTwice(t *testing.T) {
	s, _ := filled(t, "....")
	b := []byte("ab")
	if !s.Write(0, b) {
		t.Fatal("Write = false")
	}
	b[0] = 'X'
	if !s.Write(2, b) {
		t.Fatal("Write = false")
	}
	b[1] = 'Y'
	mustHave(t, s, true, "abXb")
	mustTrace(t, s, []api.Op{wrote(0, "ab"), wrote(2, "Xb")})
}

// P11.3: what is answered

func TestWhatIsAnsweredIsNewMemory(t *testing.T) {
	for _, waits := range []bool{false, true} {
		s, _ := filled(t, "abcdefgh")
		mustWrite(t, s, 2, "CD")
		if !waits {
			mustBar(t, s)
		}
		trace := s.Trace()
		for range 3 {
			all, part := readRoom(t, s, 0, 8), readRoom(t, s, 1, 3)
			none, snap := readRoom(t, s, 8, 0), s.Snap()
			for _, b := range [][]byte{all, part, none, snap} {
				smear(b)
			}
			mustHave(t, s, true, "abCDefgh")
			mustTrace(t, s, trace)
		}
	}
}

// readRoom is what is read, that is done.
func readRoom(t *testing.T, s *ssd.SSD, off, n int) []byte {
	t.Helper()
	b, ok := s.Read(off, n)
	if !ok || len(b) != n {
		t.Fatalf("Read(%d, %d) = %q, %v", off, n, b, ok)
	}
	return b
}

func TestNoTwoAnswersShare(t *testing.T) {
	s, _ := filled(t, "abcdefgh")
	mustWrite(t, s, 2, "CD")
	first, second := readRoom(t, s, 0, 4), readRoom(t, s, 0, 4)
	third, fourth := s.Snap(), s.Snap()
	smear(first)
	smear(third)
	if string(second) != "abCD" || string(fourth) != "abCDefgh" {
		t.Errorf("behind a change of others: %q, %q", second, fourth)
	}
	// What was answered stays, whatever is called later.
	mustWrite(t, s, 0, "XXXXXXXX")
	mustBar(t, s)
	mustSmash(t, s, 0, "YYYYYYYY")
	mustBack(t, s, "ZZZZZZZZ")
	if string(second) != "abCD" || string(fourth) != "abCDefgh" {
		t.Errorf("behind later calls: %q, %q", second, fourth)
	}
}

func TestTraceIsNewMemory(t *testing.T) {
	s, _ := filled(t, "abcdefgh")
	mustWrite(t, s, 0, "one")
	mustBar(t, s)
	mustWrite(t, s, 4, "two")
	mustWrite(t, s, 8, "")
	want := []api.Op{wrote(0, "one"), bar(), wrote(4, "two"), wrote(8, "")}
	kept := s.Trace()
	l := s.Trace()
	for i := range l {
		smear(l[i].Bytes)
		l[i] = api.Op{Off: 77, Bytes: []byte("lent")}
	}
	clear(l[:cap(l)])
	mustTrace(t, s, want)
	if !slices.EqualFunc(kept, want, sameOp) {
		t.Errorf("another Trace = %v", kept)
	}
	// Those that wait are told by what was written, not by what was answered.
	mustHave(t, s, true, "onedtwoh")
	s.Crash([]bool{true})
	mustHave(t, s, true, "onedtwoh")
	// Nor do the bytes of two Ops of one Trace share any.
	for i := range kept {
		smear(kept[i].Bytes)
		for j := i + 1; j < len(kept); j++ {
			if !sameOp(kept[j], want[j]) {
				t.Errorf("Op %d = %v behind a change of Op %d", j, kept[j], i)
			}
		}
	}
}

// P11.3: a nil one

func TestNilSSD(t *testing.T) {
	var s *ssd.SSD
	for range 2 {
		for _, off := range append(wideInts(), -1, 0, 1) {
			for _, b := range [][]byte{nil, {}, []byte("a")} {
				if s.Write(off, b) || s.Smash(off, b) || s.Back(b) || s.Barrier() {
					t.Fatalf("nil: a call at %d of %q is done", off, b)
				}
			}
			for _, n := range append(wideInts(), -1, 0, 1) {
				mustNotRead(t, s, off, n)
			}
		}
		s.Crash(nil)
		s.Crash([]bool{true, false})
		if s.Size() != 0 || s.Snap() != nil || s.Trace() != nil {
			t.Fatalf("nil: Size %d, Snap %v, Trace %v", s.Size(), s.Snap(), s.Trace())
		}
	}
}

func TestNilOneOfNewIsNil(t *testing.T) {
	p := power.New()
	s := ssd.New(65537, p)
	if s.Write(0, nil) || s.Barrier() || s.Smash(0, nil) || s.Back(nil) || s.Size() != 0 {
		t.Error("a nil SSD of New does something")
	}
	mustSpend(t, p, 0)
}

// W8

func TestSSDThatNobodyMade(t *testing.T) {
	s := &ssd.SSD{}
	mustNotWrite(t, s, 0, nil)
	mustNotWrite(t, s, 0, []byte("a"))
	mustStay(t, s, s.Barrier)
	mustStay(t, s, func() bool { return s.Smash(0, []byte("a")) })
	mustStay(t, s, func() bool { return s.Back([]byte("a")) })
	s.Crash([]bool{true})
	mustHave(t, s, false, "")
}

func TestCopyGoesOnAsTheOneItWas(t *testing.T) {
	s, p := filled(t, "....")
	mustWrite(t, s, 0, "a")
	mustBar(t, s)
	mustWrite(t, s, 1, "b")
	c := *s
	mustWrite(t, &c, 2, "c")
	mustHave(t, &c, true, "abc.")
	c.Crash([]bool{false, true})
	mustHave(t, &c, true, "a.c.")
	mustTrace(t, &c, []api.Op{wrote(0, "a"), bar(), wrote(1, "b"), wrote(2, "c")})
	mustSpend(t, p, 4)
}
