package disk_test

import (
	"bytes"
	"math"
	"slices"
	"testing"

	"lockbox/api"
	"lockbox/disk"
	"lockbox/power"
)

const (
	last = api.Lbas - 1 // the last block
	mark = 0xee         // what stands in the spare room of what is handed in
)

// noLbas has those of no block: just outside, as low and as high as an int can be,
// and some of which the lowest digits alone would be of one.
func noLbas() []int {
	return []int{
		-1, api.Lbas, -2, api.Lbas + 1, -api.Lbas, 2 * api.Lbas, -255, 255, 256, 65536,
		math.MinInt64, math.MinInt64 + 1, -1 << 62, -1<<32 + 1, -1 << 32, -1 << 31,
		1 << 31, 1 << 32, 1<<32 + 1, 1 << 62, math.MaxInt64 - 1, math.MaxInt64,
	}
}

// someLbas has both ends, and some between.
func someLbas() []int { return []int{0, 1, 2, 15, 16, last - 1, last} }

// noBlocks has lists that are no block.
func noBlocks() [][]byte {
	l := [][]byte{nil, {}}
	for _, n := range []int{1, api.Block - 1, api.Block + 1, 2 * api.Block, api.Block + 256, 4096} {
		l = append(l, make([]byte, n), bytes.Repeat([]byte{7}, n))
	}
	return l
}

// block is one that tells its tag at every place, and each place.
func block(tag byte) []byte {
	b := make([]byte, api.Block)
	for i := range b {
		b[i] = tag + byte(i)
	}
	return b
}

// blocks has the tags of those that are not noughts.
type blocks map[int]byte

// at is what should be read.
func (l blocks) at(lba int) []byte {
	if tag, ok := l[lba]; ok {
		return block(tag)
	}
	return make([]byte, api.Block)
}

// roomy is a copy of b with spare room behind its end, marked.
func roomy(b []byte) []byte {
	all := append(slices.Clone(b), bytes.Repeat([]byte{mark}, 24)...)
	return all[:len(b):len(all)]
}

// smear overwrites b and its spare room.
func smear(b []byte) {
	b = b[:cap(b)]
	for i := range b {
		b[i] = 0xdd
	}
}

// made is a new one with its power, which is on.
func made(t *testing.T) (*disk.Disk, *power.Power) {
	t.Helper()
	p := power.New()
	d := disk.New(p)
	if d == nil {
		t.Fatal("New = nil")
	}
	return d, p
}

// gone is a power that is.
func gone() *power.Power {
	p := power.New()
	p.Fuse(0)
	p.Spend()
	return p
}

// mustHave wants these blocks, and noughts in all others.
func mustHave(t *testing.T, d *disk.Disk, want blocks) {
	t.Helper()
	for lba := range api.Lbas {
		mustRead(t, d, lba, want.at(lba))
	}
}

// mustRead wants this block.
func mustRead(t *testing.T, d *disk.Disk, lba int, want []byte) {
	t.Helper()
	if b, ok := d.Read(lba); !ok || !bytes.Equal(b, want) {
		t.Fatalf("Read(%d) = %v, %v, want %v", lba, b, ok, want)
	}
}

// mustNotRead wants nil, false.
func mustNotRead(t *testing.T, d *disk.Disk, lba int) {
	t.Helper()
	if b, ok := d.Read(lba); ok || b != nil {
		t.Fatalf("Read(%d) = %v, %v, want nil, false", lba, b, ok)
	}
}

// mustReadNone wants no block to be read.
func mustReadNone(t *testing.T, d *disk.Disk) {
	t.Helper()
	for lba := -1; lba <= api.Lbas; lba++ {
		mustNotRead(t, d, lba)
	}
}

// mustWrite wants a Write that is done.
func mustWrite(t *testing.T, d *disk.Disk, lba int, tag byte) {
	t.Helper()
	if !d.Write(lba, block(tag)) {
		t.Fatalf("Write(%d) of %d = false", lba, tag)
	}
}

// mustNotWrite wants a Write that is not done.
func mustNotWrite(t *testing.T, d *disk.Disk, lba int, b []byte) {
	t.Helper()
	trace := d.Trace()
	if d.Write(lba, b) {
		t.Fatalf("Write(%d) of %d bytes = true", lba, len(b))
	}
	mustTrace(t, d, trace)
}

// mustBar wants a Barrier that is done.
func mustBar(t *testing.T, d *disk.Disk) {
	t.Helper()
	if !d.Barrier() {
		t.Fatal("Barrier = false")
	}
}

// mustNotBar wants a Barrier that is not done.
func mustNotBar(t *testing.T, d *disk.Disk) {
	t.Helper()
	trace := d.Trace()
	if d.Barrier() {
		t.Fatal("Barrier = true")
	}
	mustTrace(t, d, trace)
}

// mustTrace wants this Trace.
func mustTrace(t *testing.T, d *disk.Disk, want []api.Op) {
	t.Helper()
	if got := d.Trace(); !slices.EqualFunc(got, want, sameOp) {
		t.Fatalf("Trace = %v, want %v", got, want)
	}
}

// sameOp says whether both are the same, nil and no bytes too.
func sameOp(a, b api.Op) bool { return a.Off == b.Off && bytes.Equal(a.Bytes, b.Bytes) }

// wrote is the Op of a Write.
func wrote(lba int, tag byte) api.Op { return api.Op{Off: lba, Bytes: block(tag)} }

// bar is the Op of a Barrier.
func bar() api.Op { return api.Op{Off: -1} }

// mustSpend wants so many steps till now, and it to be on or not.
func mustSpend(t *testing.T, p *power.Power, steps int, on bool) {
	t.Helper()
	if p.Steps() != steps || p.On() != on {
		t.Fatalf("%d steps, on: %v; want %d, %v", p.Steps(), p.On(), steps, on)
	}
}

// mustWaitForNothing wants the same behind a Crash that would keep all.
func mustWaitForNothing(t *testing.T, d *disk.Disk, want blocks) {
	t.Helper()
	mustHave(t, d, want)
	d.Crash(slices.Repeat([]bool{true}, 40))
	mustHave(t, d, want)
	// The next Write has the first place in keep.
	mustWrite(t, d, 0, 99)
	d.Crash(append([]bool{false}, slices.Repeat([]bool{true}, 40)...))
	mustHave(t, d, want)
}

// P12.1: New

func TestNewIsOfNoughts(t *testing.T) {
	d, p := made(t)
	for lba := range api.Lbas {
		mustRead(t, d, lba, make([]byte, 32))
	}
	mustNotRead(t, d, 32)
	mustTrace(t, d, nil)
	mustSpend(t, p, 0, true)
	mustWaitForNothing(t, d, nil)
}

func TestNewAsksForNoPower(t *testing.T) {
	p := gone()
	d := disk.New(p)
	if d == nil {
		t.Fatal("New of a gone power = nil")
	}
	mustReadNone(t, d)
	p.Back()
	mustHave(t, d, nil)
	mustWrite(t, d, 3, 1)
	mustHave(t, d, blocks{3: 1})
}

func TestDisksAreApart(t *testing.T) {
	p := power.New()
	a, b := disk.New(p), disk.New(p)
	mustWrite(t, a, 0, 1)
	mustHave(t, b, nil)
	mustWrite(t, b, 1, 2)
	mustBar(t, b)
	a.Refuse(true)
	mustWrite(t, b, last, 3)
	a.Crash(nil)
	mustHave(t, a, nil)
	mustHave(t, b, blocks{1: 2, last: 3})
	mustTrace(t, a, []api.Op{wrote(0, 1)})
	mustTrace(t, b, []api.Op{wrote(1, 2), bar(), wrote(last, 3)})
	mustSpend(t, p, 4, true)
	mustHave(t, disk.New(p), nil)
}

// P12.1: the answers of Write, Barrier and Read

// supply is a power that Spends a step, or not, and is on till it is asked.
type supply struct {
	name   string
	make   func() *power.Power
	spends bool
	on     bool
}

// fused is a power with a fuse.
func fused(n int) *power.Power {
	p := power.New()
	p.Fuse(n)
	return p
}

// backAgain is one that was gone.
func backAgain() *power.Power {
	p := gone()
	p.Back()
	return p
}

// supplies has powers of all kinds.
func supplies() []supply {
	return []supply{
		{"on", power.New, true, true},
		{"one step left", func() *power.Power { return fused(1) }, true, true},
		{"no step left", func() *power.Power { return fused(0) }, false, true},
		{"gone", gone, false, false},
		{"back again", backAgain, true, true},
		{"none", func() *power.Power { return nil }, false, false},
	}
}

// manners has the rows of Refuse, the last of which decides.
func manners() [][]bool {
	return [][]bool{nil, {true}, {false}, {true, false}, {true, true}, {true, false, true}}
}

// refusing tells whether a Disk refuses behind these.
func refusing(l []bool) bool { return len(l) > 0 && l[len(l)-1] }

// each hands over a new Disk for each power and manner.
func each(f func(s supply, p *power.Power, d *disk.Disk, refuses bool)) {
	for _, s := range supplies() {
		for _, manner := range manners() {
			p := s.make()
			d := disk.New(p)
			for _, is := range manner {
				d.Refuse(is)
			}
			f(s, p, d, refusing(manner))
		}
	}
}

// mustAnswer wants what a Write answers, and all that is to be told of it.
func mustAnswer(t *testing.T, lba int, b []byte, isLba bool) {
	t.Helper()
	each(func(s supply, p *power.Power, d *disk.Disk, refuses bool) {
		asks := isLba && len(b) == 32 && !refuses
		done, steps := asks && s.spends, p.Steps()
		var trace []api.Op
		if done {
			steps++
			trace = []api.Op{{Off: lba, Bytes: b}}
		}
		if got := d.Write(lba, b); got != done {
			t.Fatalf("power %s, refuses: %v: Write(%d) of %d bytes = %v", s.name, refuses, lba, len(b), got)
		}
		mustSpend(t, p, steps, s.on && (s.spends || !asks))
		mustTrace(t, d, trace)
		p.Back()
		for i := range api.Lbas {
			want := make([]byte, 32)
			if done && i == lba {
				want = b
			}
			if p != nil {
				mustRead(t, d, i, want)
			}
		}
	})
}

func TestWriteAnswers(t *testing.T) {
	for lba := range api.Lbas {
		mustAnswer(t, lba, block(9), true)
		mustAnswer(t, lba, make([]byte, 32), true)
	}
	for _, lba := range noLbas() {
		mustAnswer(t, lba, block(9), false)
	}
	for _, b := range noBlocks() {
		for _, lba := range someLbas() {
			mustAnswer(t, lba, b, true)
		}
		for _, lba := range noLbas() {
			mustAnswer(t, lba, b, false)
		}
	}
}

func TestWriteOfEverySize(t *testing.T) {
	for n := range 3 * api.Block {
		mustAnswer(t, 4, bytes.Repeat([]byte{7}, n), true)
	}
}

func TestBarrierAnswers(t *testing.T) {
	each(func(s supply, p *power.Power, d *disk.Disk, refuses bool) {
		steps := p.Steps()
		if got := d.Barrier(); got != s.spends {
			t.Fatalf("power %s, refuses: %v: Barrier = %v", s.name, refuses, got)
		}
		var trace []api.Op
		if s.spends {
			steps++
			trace = []api.Op{bar()}
		}
		mustSpend(t, p, steps, s.spends)
		mustTrace(t, d, trace)
	})
}

func TestReadAnswers(t *testing.T) {
	each(func(s supply, p *power.Power, d *disk.Disk, refuses bool) {
		steps := p.Steps()
		for lba := range api.Lbas {
			b, ok := d.Read(lba)
			if ok != s.on || ok && !bytes.Equal(b, make([]byte, 32)) || !ok && b != nil {
				t.Fatalf("power %s, refuses: %v: Read(%d) = %v, %v", s.name, refuses, lba, b, ok)
			}
		}
		for _, lba := range noLbas() {
			mustNotRead(t, d, lba)
		}
		mustSpend(t, p, steps, s.on)
		mustTrace(t, d, nil)
	})
}

// P12.1: a Write that is refused

func TestWriteThatIsNotDoneWaitsForNothing(t *testing.T) {
	d, p := made(t)
	mustWrite(t, d, 0, 1)
	for _, lba := range noLbas() {
		mustNotWrite(t, d, lba, block(2))
	}
	for _, b := range noBlocks() {
		mustNotWrite(t, d, 0, b)
	}
	d.Refuse(true)
	mustNotWrite(t, d, 0, block(3))
	mustNotWrite(t, d, 5, block(3))
	d.Refuse(false)
	mustSpend(t, p, 1, true)
	p.Fuse(0)
	mustNotWrite(t, d, 0, block(4))
	mustNotWrite(t, d, 6, block(4))
	p.Back()
	mustHave(t, d, blocks{0: 1})
	mustWrite(t, d, 7, 5)
	mustTrace(t, d, []api.Op{wrote(0, 1), wrote(7, 5)})
	// None of them has a place in keep: the second place is that of the last Write.
	d.Crash([]bool{false, true})
	mustHave(t, d, blocks{7: 5})
	mustWaitForNothing(t, d, blocks{7: 5})
}

func TestWriteThatIsNotDoneSpendsNoStep(t *testing.T) {
	d, p := made(t)
	p.Fuse(1)
	for _, lba := range noLbas() {
		mustNotWrite(t, d, lba, block(2))
	}
	for _, b := range noBlocks() {
		mustNotWrite(t, d, 0, b)
	}
	d.Refuse(true)
	mustNotWrite(t, d, 0, block(2))
	d.Refuse(false)
	mustSpend(t, p, 0, true)
	mustWrite(t, d, 0, 1)
	// No step is left, and it does not go by what asks for none.
	mustNotWrite(t, d, api.Lbas, block(2))
	mustNotWrite(t, d, 0, block(2)[1:])
	d.Refuse(true)
	mustNotWrite(t, d, 0, block(2))
	mustSpend(t, p, 1, true)
	mustHave(t, d, blocks{0: 1})
	d.Refuse(false)
	mustNotWrite(t, d, 0, block(2))
	mustSpend(t, p, 1, false)
	mustReadNone(t, d)
}

// P12.1: Refuse

func TestRefuseLetsAllElseBe(t *testing.T) {
	d, p := made(t)
	mustWrite(t, d, 0, 1)
	mustWrite(t, d, 1, 2)
	d.Refuse(true)
	mustHave(t, d, blocks{0: 1, 1: 2})
	d.Crash([]bool{false, true})
	mustHave(t, d, blocks{1: 2})
	d.Refuse(false)
	mustWrite(t, d, 2, 3)
	d.Refuse(true)
	mustBar(t, d)
	d.Crash(nil)
	mustHave(t, d, blocks{1: 2, 2: 3})
	// It refuses behind a Barrier and a Crash still, and when the power is back.
	mustNotWrite(t, d, 3, block(4))
	p.Fuse(0)
	mustNotBar(t, d)
	p.Back()
	mustNotWrite(t, d, 3, block(4))
	mustHave(t, d, blocks{1: 2, 2: 3})
	d.Refuse(false)
	mustWrite(t, d, 3, 4)
	mustHave(t, d, blocks{1: 2, 2: 3, 3: 4})
	mustTrace(t, d, []api.Op{wrote(0, 1), wrote(1, 2), wrote(2, 3), bar(), wrote(3, 4)})
	mustSpend(t, p, 5, true)
}

func TestRefuseHasNothingLast(t *testing.T) {
	for _, is := range []bool{true, false} {
		d, _ := made(t)
		mustWrite(t, d, 0, 1)
		d.Refuse(is)
		mustHave(t, d, blocks{0: 1})
		d.Crash(nil)
		mustHave(t, d, nil)
	}
}

func TestRefuseAsksForNoPower(t *testing.T) {
	p := gone()
	d := disk.New(p)
	d.Refuse(true)
	mustSpend(t, p, 0, false)
	p.Back()
	mustNotWrite(t, d, 0, block(1))
	p.Fuse(0)
	d.Refuse(false)
	mustSpend(t, p, 0, true)
	p.Back()
	mustWrite(t, d, 0, 1)
	mustTrace(t, d, []api.Op{wrote(0, 1)})
}

// P12.1: Read of what waits

func TestWriteIsReadAtOnce(t *testing.T) {
	d, p := made(t)
	want := blocks{}
	for lba := range api.Lbas {
		mustWrite(t, d, lba, byte(100+lba))
		want[lba] = byte(100 + lba)
		mustHave(t, d, want)
	}
	mustSpend(t, p, 32, true)
	d.Crash(nil)
	mustHave(t, d, nil)
}

func TestBlockIsThatOneAlone(t *testing.T) {
	for lba := range api.Lbas {
		for _, settle := range []func(*disk.Disk){
			func(d *disk.Disk) {},
			func(d *disk.Disk) { d.Barrier() },
			func(d *disk.Disk) { d.Crash([]bool{true}) },
		} {
			d, _ := made(t)
			mustWrite(t, d, lba, 5)
			settle(d)
			mustHave(t, d, blocks{lba: 5})
		}
	}
}

func TestWritesOfOneBlockLieInOrder(t *testing.T) {
	for _, lba := range someLbas() {
		d, _ := made(t)
		mustWrite(t, d, lba, 1)
		mustBar(t, d)
		mustWrite(t, d, lba, 2)
		mustHave(t, d, blocks{lba: 2})
		mustWrite(t, d, (lba+1)%api.Lbas, 8)
		mustWrite(t, d, lba, 3)
		mustWrite(t, d, lba, 4)
		mustHave(t, d, blocks{lba: 4, (lba + 1) % api.Lbas: 8})
		mustBar(t, d)
		mustHave(t, d, blocks{lba: 4, (lba + 1) % api.Lbas: 8})
		d.Crash(nil)
		mustHave(t, d, blocks{lba: 4, (lba + 1) % api.Lbas: 8})
	}
}

func TestWriteOfNoughtsLiesAboveToo(t *testing.T) {
	d, _ := made(t)
	mustWrite(t, d, 3, 1)
	mustBar(t, d)
	if !d.Write(3, make([]byte, api.Block)) {
		t.Fatal("Write of noughts = false")
	}
	mustHave(t, d, nil)
	d.Crash(nil)
	mustHave(t, d, blocks{3: 1})
}

func TestReadSpendsNoStep(t *testing.T) {
	d, p := made(t)
	mustWrite(t, d, 0, 1)
	p.Fuse(1)
	for range 50 {
		mustHave(t, d, blocks{0: 1})
	}
	mustBar(t, d)
	// The last step of the fuse was done: it is on till the next one.
	for range 50 {
		mustHave(t, d, blocks{0: 1})
	}
	mustSpend(t, p, 2, true)
	mustNotBar(t, d)
	mustReadNone(t, d)
	p.Back()
	mustHave(t, d, blocks{0: 1})
}

// P12.1: Barrier

func TestBarrierHasAllLast(t *testing.T) {
	d, p := made(t)
	mustWrite(t, d, 0, 1)
	mustWrite(t, d, last, 2)
	mustWrite(t, d, 0, 3)
	mustBar(t, d)
	mustWaitForNothing(t, d, blocks{0: 3, last: 2})
	mustTrace(t, d, []api.Op{wrote(0, 1), wrote(last, 2), wrote(0, 3), bar(), wrote(0, 99)})
	mustSpend(t, p, 5, true)
}

func TestBarrierOfNothing(t *testing.T) {
	d, p := made(t)
	mustBar(t, d)
	mustBar(t, d)
	mustHave(t, d, nil)
	mustTrace(t, d, []api.Op{bar(), bar()})
	mustSpend(t, p, 2, true)
}

func TestWhatWaitsBehindABarrier(t *testing.T) {
	d, _ := made(t)
	mustWrite(t, d, 0, 1)
	mustBar(t, d)
	mustWrite(t, d, 1, 2)
	mustWrite(t, d, 0, 3)
	mustHave(t, d, blocks{0: 3, 1: 2})
	// The first place in keep is that of the first Write behind the Barrier.
	d.Crash([]bool{true})
	mustHave(t, d, blocks{0: 1, 1: 2})
	mustWrite(t, d, 2, 4)
	mustBar(t, d)
	mustBar(t, d)
	mustWrite(t, d, 3, 5)
	d.Crash([]bool{false})
	mustHave(t, d, blocks{0: 1, 1: 2, 2: 4})
}

func TestBarrierThatIsNotDoneLeavesAllWaiting(t *testing.T) {
	for _, keep := range [][]bool{nil, {true}, {false, true}, {true, true}} {
		d, p := made(t)
		mustWrite(t, d, 0, 1)
		mustWrite(t, d, last, 2)
		p.Fuse(0)
		mustNotBar(t, d)
		mustNotBar(t, d)
		d.Crash(keep)
		p.Back()
		want := blocks{}
		for i, k := range keep {
			if k {
				want[i*last] = byte(i + 1)
			}
		}
		mustWaitForNothing(t, d, want)
	}
}

// P12.1: the power

func TestFuseEndsAtAnyStep(t *testing.T) {
	// Of these steps as many are done as the fuse has.
	steps := []struct {
		op  api.Op
		has blocks
	}{
		{wrote(0, 1), blocks{0: 1}},
		{wrote(1, 2), blocks{0: 1, 1: 2}},
		{bar(), blocks{0: 1, 1: 2}},
		{wrote(0, 3), blocks{0: 3, 1: 2}},
		{bar(), blocks{0: 3, 1: 2}},
		{wrote(last, 4), blocks{0: 3, 1: 2, last: 4}},
	}
	for n := 0; n <= len(steps); n++ {
		d, p := made(t)
		p.Fuse(n)
		has := blocks{}
		var trace []api.Op
		for i, x := range steps {
			if got := step(d, x.op); got != (i < n) {
				t.Fatalf("Fuse(%d): step %d = %v", n, i, got)
			}
			if i >= n {
				mustReadNone(t, d)
				continue
			}
			has = x.has
			trace = append(trace, x.op)
			mustHave(t, d, has)
		}
		mustTrace(t, d, trace)
		mustSpend(t, p, n, n == len(steps))
		p.Back()
		mustHave(t, d, has)
	}
}

// step does what the Op tells.
func step(d *disk.Disk, op api.Op) bool {
	if op.Off == -1 {
		return d.Barrier()
	}
	return d.Write(op.Off, op.Bytes)
}

// P12.1: Crash

func TestCrashOfEveryKeep(t *testing.T) {
	writes := []api.Op{wrote(0, 1), wrote(last, 2), wrote(0, 3), wrote(1, 4)}
	tags := []byte{1, 2, 3, 4}
	for n := 0; n <= len(writes)+2; n++ {
		for digits := range 1 << n {
			keep := make([]bool, n)
			want := blocks{}
			for i := range keep {
				keep[i] = digits>>i&1 == 1
				if keep[i] && i < len(writes) {
					want[writes[i].Off] = tags[i]
				}
			}
			d, p := made(t)
			for _, x := range writes {
				step(d, x)
			}
			mustHave(t, d, blocks{0: 3, 1: 4, last: 2})
			d.Crash(keep)
			mustTrace(t, d, writes)
			mustSpend(t, p, len(writes), true)
			mustWaitForNothing(t, d, want)
		}
	}
}

func TestCrashWhereNothingWaits(t *testing.T) {
	for _, keep := range [][]bool{nil, {}, {true}, {false}, {true, true, true}} {
		d, p := made(t)
		d.Crash(keep)
		mustHave(t, d, nil)
		mustWrite(t, d, 0, 1)
		mustBar(t, d)
		d.Crash(keep)
		d.Crash(keep)
		mustHave(t, d, blocks{0: 1})
		mustTrace(t, d, []api.Op{wrote(0, 1), bar()})
		mustSpend(t, p, 2, true)
	}
}

func TestCrashUncoversWhatLiesBelow(t *testing.T) {
	d, _ := made(t)
	mustWrite(t, d, 0, 1)
	mustWrite(t, d, 0, 2)
	d.Crash([]bool{true, false})
	mustHave(t, d, blocks{0: 1})
	mustWrite(t, d, 0, 3)
	mustWrite(t, d, 0, 4)
	mustWrite(t, d, 0, 5)
	d.Crash([]bool{true, true})
	mustHave(t, d, blocks{0: 4})
	mustWrite(t, d, 0, 6)
	d.Crash(nil)
	mustHave(t, d, blocks{0: 4})
}

func TestCrashAsksForNoPower(t *testing.T) {
	for _, lost := range []bool{false, true} {
		d, p := made(t)
		mustWrite(t, d, 0, 1)
		mustWrite(t, d, 1, 2)
		p.Fuse(0)
		if lost {
			p.Spend()
		}
		d.Crash([]bool{false, true})
		mustSpend(t, p, 2, !lost)
		mustTrace(t, d, []api.Op{wrote(0, 1), wrote(1, 2)})
		p.Back()
		mustWaitForNothing(t, d, blocks{1: 2})
	}
}

func TestCrashOfALongKeep(t *testing.T) {
	d, _ := made(t)
	keep := make([]bool, 1000)
	want := blocks{}
	for i := range 500 {
		mustWrite(t, d, i%api.Lbas, byte(i))
		if keep[i] = i%3 == 0; keep[i] {
			want[i%api.Lbas] = byte(i)
		}
	}
	d.Crash(keep)
	mustWaitForNothing(t, d, want)
}

// P12.1: Trace

func TestTraceOfManyWrites(t *testing.T) {
	d, p := made(t)
	var want []api.Op
	for i := range 300 {
		if i%7 == 6 {
			mustBar(t, d)
			want = append(want, bar())
			continue
		}
		mustWrite(t, d, i%api.Lbas, byte(i))
		want = append(want, wrote(i%api.Lbas, byte(i)))
	}
	mustTrace(t, d, want)
	mustSpend(t, p, 300, true)
	d.Crash(nil)
	d.Refuse(true)
	mustTrace(t, d, want)
	mustSpend(t, p, 300, true)
}

func TestTraceAsksForNoPower(t *testing.T) {
	d, p := made(t)
	mustWrite(t, d, 0, 1)
	mustBar(t, d)
	p.Fuse(0)
	mustTrace(t, d, []api.Op{wrote(0, 1), bar()})
	mustSpend(t, p, 2, true)
	p.Spend()
	mustTrace(t, d, []api.Op{wrote(0, 1), bar()})
	if op := d.Trace()[1]; op.Off != -1 || len(op.Bytes) != 0 {
		t.Errorf("a Barrier in a Trace = %d, %v", op.Off, op.Bytes)
	}
}

// P12.1: every row of a few calls

// act is a call of a row, and what it answered.
type act struct {
	kind int
	n    int // the lba, or a fuse's steps, or 1: it refuses
	size int
	keep []bool
	done bool
}

const (
	write = iota
	barrier
	crash
	refuse
	fuse
	restore
)

// asks says whether an act is one that asks power behind these.
func asks(l []act, x act) bool {
	if x.kind != write || x.n < 0 || x.n >= 32 || x.size != 32 {
		return x.kind == barrier
	}
	for i := len(l) - 1; i >= 0; i-- {
		if l[i].kind == refuse {
			return l[i].n == 0
		}
	}
	return true
}

// mains tells of the power behind these acts how many steps there were, how many
// its fuse has left (below 0: it has none), and whether it is on.
func mains(l []act) (steps, left int, on bool) {
	left, on = -1, true
	for i, x := range l {
		switch {
		case x.kind == restore:
			left, on = -1, true
		case x.kind == fuse:
			left = x.n
		case asks(l[:i], x) && x.done:
			steps++
			left = max(left-1, -1)
		case asks(l[:i], x):
			on = false
		}
	}
	return steps, left, on
}

// may says whether an act is done behind these.
func may(l []act, x act) bool {
	if x.kind != write && x.kind != barrier {
		return true
	}
	_, left, on := mains(l)
	return asks(l, x) && on && left != 0
}

// seen is the tag of a block behind these acts, told from the last one back: a
// Write that was done is seen, if what ended its wait has it last, or nothing did.
func seen(l []act) blocks {
	has, ended := blocks{}, -1
	for j := len(l) - 1; j >= 0; j-- {
		x := l[j]
		_, above := has[x.n]
		switch {
		case !x.done:
		case x.kind == barrier || x.kind == crash:
			ended = j
		case x.kind == write && !above && lasts(l, j, ended):
			has[x.n] = tagOf(j)
		}
	}
	return has
}

// lasts says whether the Write at j is seen, whose wait was ended at that place.
func lasts(l []act, j, ended int) bool {
	if ended < 0 || l[ended].kind == barrier {
		return true
	}
	place := 0
	for k := j - 1; k >= 0; k-- {
		if l[k].done && l[k].kind == write {
			place++
		}
		if l[k].done && (l[k].kind == barrier || l[k].kind == crash) {
			break
		}
	}
	keep := l[ended].keep
	return place < len(keep) && keep[place]
}

// tagOf is the tag of what is written by the act at this place of a row.
func tagOf(place int) byte { return byte(16*place + 1) }

// data is what an act at this place writes: the block of its tag, or more or less.
func data(place int, x act) []byte {
	return append(block(tagOf(place)), 1, 2, 3)[:x.size]
}

// do does the act at this place, and tells what it answers.
func do(d *disk.Disk, p *power.Power, place int, x act) bool {
	switch x.kind {
	case write:
		return d.Write(x.n, data(place, x))
	case barrier:
		return d.Barrier()
	case crash:
		d.Crash(x.keep)
	case refuse:
		d.Refuse(x.n == 1)
	case fuse:
		p.Fuse(x.n)
	case restore:
		p.Back()
	}
	return true
}

// replay wants of a new Disk what the acts tell, read from the last one back.
func replay(t *testing.T, l []act) {
	t.Helper()
	d, p := made(t)
	var trace []api.Op
	for i := range l {
		x := &l[i]
		x.done = may(l[:i], *x)
		if got := do(d, p, i, *x); got != x.done {
			t.Fatalf("%v: act %d = %v", l, i, got)
		}
		switch {
		case x.done && x.kind == write:
			trace = append(trace, wrote(x.n, tagOf(i)))
		case x.done && x.kind == barrier:
			trace = append(trace, bar())
		}
	}
	n, _, on := mains(l)
	mustSpend(t, p, n, on)
	if !on {
		mustReadNone(t, d)
		p.Back()
	}
	mustHave(t, d, seen(l))
	mustTrace(t, d, trace)
	mustSpend(t, p, n, true)
}

// acts has those of a row.
func acts() []act {
	return []act{
		{kind: write, n: 0, size: 32},
		{kind: write, n: last, size: 32},
		{kind: write, n: -1, size: 32},
		{kind: write, n: 0, size: 31},
		{kind: barrier},
		{kind: crash},
		{kind: crash, keep: []bool{true}},
		{kind: crash, keep: []bool{false, true, true}},
		{kind: refuse, n: 1},
		{kind: refuse, n: 0},
		{kind: fuse, n: 1},
		{kind: restore},
	}
}

// everyRow replays all rows of so many acts that begin so.
func everyRow(t *testing.T, l []act, size int) {
	t.Helper()
	if len(l) == size {
		replay(t, l)
		return
	}
	for _, x := range acts() {
		everyRow(t, append(l, x), size)
	}
}

func TestEveryRowOfActs(t *testing.T) {
	for size := range 5 {
		everyRow(t, nil, size)
	}
}

func TestLongRowsOfActs(t *testing.T) {
	digits := uint64(1)
	for range 3000 {
		var l []act
		for range 14 {
			digits = digits*6364136223846793005 + 1442695040888963407
			l = append(l, acts()[digits>>33%uint64(len(acts()))])
		}
		replay(t, l)
	}
}

// P12.2: what is handed in

func TestWhatIsHandedInIsNotChanged(t *testing.T) {
	d, _ := made(t)
	b, keep := roomy(block(1)), []bool{true, false, true, true}
	for _, call := range []func(){
		func() { d.Write(0, b) },
		func() { d.Write(0, b[:8]) },
		func() { d.Write(-1, b) },
		func() { d.Refuse(true); d.Write(0, b); d.Refuse(false) },
		func() { d.Write(0, b); d.Crash(keep[:1]) },
		func() { d.Write(0, b); d.Crash(keep[:2]) },
		func() { d.Write(0, b); d.Barrier() },
	} {
		call()
		mustWrite(t, d, 0, 2)
		mustBar(t, d)
		mustWrite(t, d, 0, 3)
		d.Crash(nil)
		if want := append(block(1), bytes.Repeat([]byte{mark}, 24)...); !bytes.Equal(b[:cap(b)], want) {
			t.Fatalf("what was handed in = %v", b[:cap(b)])
		}
		if !slices.Equal(keep, []bool{true, false, true, true}) {
			t.Fatalf("keep = %v", keep)
		}
	}
}

func TestWhatIsHandedInIsNotKept(t *testing.T) {
	d, _ := made(t)
	b := roomy(block(1))
	if !d.Write(0, b) {
		t.Fatal("Write = false")
	}
	smear(b)
	mustHave(t, d, blocks{0: 1})
	mustTrace(t, d, []api.Op{wrote(0, 1)})
	keep := []bool{true}
	d.Crash(keep)
	keep[0] = false
	smear(b)
	mustHave(t, d, blocks{0: 1})
	copy(b, block(2))
	if !d.Write(1, b) {
		t.Fatal("Write = false")
	}
	mustBar(t, d)
	smear(b)
	mustHave(t, d, blocks{0: 1, 1: 2})
	mustTrace(t, d, []api.Op{wrote(0, 1), wrote(1, 2), bar()})
}

func TestOneListWrittenTwice(t *testing.T) {
	d, _ := made(t)
	b := block(1)
	if !d.Write(0, b) {
		t.Fatal("Write = false")
	}
	copy(b, block(2))
	if !d.Write(1, b) {
		t.Fatal("Write = false")
	}
	clear(b)
	mustHave(t, d, blocks{0: 1, 1: 2})
	mustTrace(t, d, []api.Op{wrote(0, 1), wrote(1, 2)})
}

// P12.2: what is answered

// readRoom is what is read, that is done.
func readRoom(t *testing.T, d *disk.Disk, lba int) []byte {
	t.Helper()
	b, ok := d.Read(lba)
	if !ok || len(b) != api.Block {
		t.Fatalf("Read(%d) = %v, %v", lba, b, ok)
	}
	return b
}

func TestWhatIsReadIsNewMemory(t *testing.T) {
	for _, waits := range []bool{false, true} {
		d, _ := made(t)
		mustWrite(t, d, 0, 1)
		mustWrite(t, d, last, 2)
		if !waits {
			mustBar(t, d)
		}
		trace := d.Trace()
		for range 3 {
			for lba := range api.Lbas {
				smear(readRoom(t, d, lba))
			}
			mustHave(t, d, blocks{0: 1, last: 2})
			mustTrace(t, d, trace)
		}
		d.Crash([]bool{true, true})
		mustHave(t, d, blocks{0: 1, last: 2})
	}
}

func TestNoTwoReadsShare(t *testing.T) {
	d, _ := made(t)
	mustWrite(t, d, 0, 1)
	mustBar(t, d)
	first, second, next := readRoom(t, d, 0), readRoom(t, d, 0), readRoom(t, d, 1)
	smear(first)
	// What was answered stays, whatever is called later.
	mustWrite(t, d, 0, 3)
	mustWrite(t, d, 1, 4)
	mustBar(t, d)
	if !bytes.Equal(second, block(1)) || !bytes.Equal(next, make([]byte, api.Block)) {
		t.Errorf("behind later calls: %v, %v", second, next)
	}
}

func TestTraceIsNewMemory(t *testing.T) {
	d, _ := made(t)
	mustWrite(t, d, 0, 1)
	mustBar(t, d)
	mustWrite(t, d, 1, 2)
	mustWrite(t, d, 0, 3)
	want := []api.Op{wrote(0, 1), bar(), wrote(1, 2), wrote(0, 3)}
	kept, l := d.Trace(), d.Trace()
	for i := range l {
		smear(l[i].Bytes)
		l[i] = api.Op{Off: 77, Bytes: []byte("lent")}
	}
	clear(l[:cap(l)])
	mustTrace(t, d, want)
	mustHave(t, d, blocks{0: 3, 1: 2})
	if !slices.EqualFunc(kept, want, sameOp) {
		t.Errorf("another Trace = %v", kept)
	}
	// Those that wait are told by what was written, not by what was answered.
	d.Crash([]bool{true})
	mustHave(t, d, blocks{0: 1, 1: 2})
	// Nor do the bytes of two Ops of one Trace share any.
	for i := range kept {
		smear(kept[i].Bytes)
		for j := i + 1; j < len(kept); j++ {
			if !sameOp(kept[j], want[j]) {
				t.Errorf("Op %d = %v behind a change of Op %d", j, kept[j], i)
			}
		}
	}
	mustTrace(t, d, want)
}

func TestEarlierTraceStays(t *testing.T) {
	d, _ := made(t)
	mustWrite(t, d, 0, 1)
	first := d.Trace()
	mustWrite(t, d, 0, 2)
	mustBar(t, d)
	d.Crash(nil)
	if len(first) != 1 || !sameOp(first[0], wrote(0, 1)) {
		t.Errorf("an earlier Trace = %v", first)
	}
}

// P12.2: a nil one, and one of a nil power

func TestNilDisk(t *testing.T) {
	var d *disk.Disk
	for range 2 {
		for _, lba := range append(noLbas(), someLbas()...) {
			for _, b := range append(noBlocks(), block(1)) {
				mustNotWrite(t, d, lba, b)
			}
			mustNotRead(t, d, lba)
		}
		mustNotBar(t, d)
		d.Crash(nil)
		d.Crash([]bool{true, false})
		d.Refuse(true)
		d.Refuse(false)
		if got := d.Trace(); got != nil {
			t.Fatalf("nil: Trace = %v", got)
		}
	}
}

func TestDiskOfANilPower(t *testing.T) {
	// One that New did not make is as one of a nil power.
	for _, d := range []*disk.Disk{disk.New(nil), {}} {
		for range 2 {
			for _, lba := range append(noLbas(), someLbas()...) {
				mustNotWrite(t, d, lba, block(1))
				mustNotRead(t, d, lba)
			}
			mustNotBar(t, d)
			d.Crash([]bool{true})
			d.Refuse(true)
			d.Refuse(false)
			mustTrace(t, d, nil)
		}
	}
}

// W8

func TestCopyGoesOnAsTheOneItWas(t *testing.T) {
	d, p := made(t)
	mustWrite(t, d, 0, 1)
	mustBar(t, d)
	mustWrite(t, d, 1, 2)
	c := *d
	mustWrite(t, &c, 2, 3)
	mustHave(t, &c, blocks{0: 1, 1: 2, 2: 3})
	c.Crash([]bool{false, true})
	mustHave(t, &c, blocks{0: 1, 2: 3})
	mustTrace(t, &c, []api.Op{wrote(0, 1), bar(), wrote(1, 2), wrote(2, 3)})
	mustSpend(t, p, 4, true)
}
