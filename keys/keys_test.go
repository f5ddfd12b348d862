package keys_test

import (
	"math"
	"slices"
	"testing"

	"lockbox/api"
	"lockbox/keys"
	"lockbox/power"
	"lockbox/speck"
)

const (
	seed  = 0x0123456789abcdef
	many  = 300 // more calls than a fuse of these tests has steps
	never = math.MaxUint32
)

// fuses has those at both ends, at small numbers and at single digits.
func fuses() []int { return []int{0, 1, 2, 3, 4, 7, 8, 16, 99, 100, 101, 255, 256, many - 1} }

// longFuses has those of which no test sees the end: of a negative one there is none.
func longFuses() []int {
	return []int{many, 1 << 31, 1 << 32, math.MaxInt64, -1, -2, -1 << 32, math.MinInt64}
}

// seeds has those at both ends, and some between.
func seeds() []uint64 {
	return []uint64{0, 1, 2, seed, 1 << 32, 1<<32 - 1, 1 << 63, math.MaxUint64 - 1, math.MaxUint64}
}

// far has epochs that no row of these tests comes to.
func far() []uint32 { return []uint32{10000, 1 << 16, 1<<31 - 1, 1 << 31, never - 1, never} }

// made is a new one with its power, which is on.
func made(t *testing.T) (*keys.Keys, *power.Power) {
	t.Helper()
	p := power.New()
	k := keys.New(seed, p)
	if k == nil {
		t.Fatal("New = nil")
	}
	return k, p
}

// grown has epochs 1 to n, and its power, of which n - 1 steps are spent.
func grown(t *testing.T, n int) (*keys.Keys, *power.Power) {
	t.Helper()
	k, p := made(t)
	mustAdd(t, k, n-1)
	mustHave(t, k, from(1, n)...)
	return k, p
}

// from is the epochs from first to last.
func from(first, last int) []uint32 {
	var l []uint32
	for e := first; e <= last; e++ {
		l = append(l, uint32(e))
	}
	return l
}

// mustHave wants these of Keys of seed, the last current, and no others, asked twice:
// that they are asked changes none.
func mustHave(t *testing.T, k *keys.Keys, l ...uint32) {
	t.Helper()
	for range 2 {
		mustHaveOf(t, k, seed, l)
	}
}

// mustHaveOf wants these of Keys of this seed.
func mustHaveOf(t *testing.T, k *keys.Keys, seed uint64, l []uint32) {
	t.Helper()
	if got := k.Epochs(); !slices.Equal(got, l) {
		t.Fatalf("Epochs = %v, want %v", got, l)
	}
	last := uint32(0)
	if len(l) > 0 {
		last = l[len(l)-1]
	}
	if got := k.Current(); got != last {
		t.Fatalf("Current = %d of %v, want %d", got, l, last)
	}
	for e := range last + 3 {
		mustKey(t, k, seed, e, slices.Contains(l, e))
	}
	for _, e := range far() {
		mustKey(t, k, seed, e, false)
	}
}

// mustKey wants this epoch's key if it is there, and nothing else.
func mustKey(t *testing.T, k *keys.Keys, seed uint64, e uint32, there bool) {
	t.Helper()
	want := api.Pair{}
	if there {
		want = speck.Encrypt(api.Pair{seed, seed}, api.Pair{0, uint64(e)})
	}
	if got, ok := k.Key(e); got != want || ok != there {
		t.Fatalf("Key(%d) = %x, %v, want %x, %v", e, got, ok, want, there)
	}
}

// mustAdd wants so many Adds that are done.
func mustAdd(t *testing.T, k *keys.Keys, n int) {
	t.Helper()
	for i := range n {
		if !k.Add() {
			t.Fatalf("Add %d of %d = false", i+1, n)
		}
	}
}

// mustErase wants these to be done, one by one.
func mustErase(t *testing.T, k *keys.Keys, l ...uint32) {
	t.Helper()
	for _, below := range l {
		if !k.Erase(below) {
			t.Fatalf("Erase(%d) = false", below)
		}
	}
}

// mustNot wants neither Add nor Erase to be done, nor to change anything.
func mustNot(t *testing.T, k *keys.Keys) {
	t.Helper()
	l := k.Epochs()
	for _, below := range []uint32{0, 1, k.Current(), k.Current() + 1, never} {
		if k.Add() {
			t.Fatal("Add without a step = true")
		}
		if k.Erase(below) {
			t.Fatalf("Erase(%d) without a step = true", below)
		}
	}
	mustHave(t, k, l...)
}

// mustSpend wants so many steps to be spent of p, and p to be on or not.
func mustSpend(t *testing.T, p *power.Power, steps int, on bool) {
	t.Helper()
	if p.Steps() != steps || p.On() != on {
		t.Fatalf("Steps, On = %d, %v, want %d, %v", p.Steps(), p.On(), steps, on)
	}
}

// lose has p be gone.
func lose(p *power.Power) {
	p.Fuse(0)
	p.Spend()
}

func TestExample(t *testing.T) {
	k := keys.New(0, power.New())
	k.Add()
	k.Erase(2)
	if got := k.Epochs(); !slices.Equal(got, []uint32{2}) {
		t.Errorf("Add, Erase(2): Epochs = %v, want 2", got)
	}
}

// P14.1: Of

func TestOfIsEncrypt(t *testing.T) {
	epochs := append(from(0, 300), far()...)
	for _, s := range seeds() {
		for _, e := range epochs {
			want := speck.Encrypt(api.Pair{s, s}, api.Pair{0, uint64(e)})
			if got := keys.Of(s, e); got != want {
				t.Errorf("Of(%x, %d) = %x, want %x", s, e, got, want)
			}
		}
	}
}

func TestOfKnownAnswers(t *testing.T) {
	// Worked out apart from the program, in whole numbers cut to 64 digits.
	for _, x := range []struct {
		seed  uint64
		epoch uint32
		want  api.Pair
	}{
		{0, 0, api.Pair{0x665c02fddcf38d76, 0x208ed74c037f0a6d}},
		{0, 1, api.Pair{0x699b77fd7aa52504, 0xaa0101eca855b2e6}},
		{0, never, api.Pair{0x2c7b25e02912f8f9, 0x8839ae5817f59ce3}},
		{1, 0, api.Pair{0x202c8e4bac466a2c, 0xf1ee5e1dee2175ae}},
		{1, 1, api.Pair{0xc93352067720e20b, 0xf604bc7e4e17cbf2}},
		{1, never, api.Pair{0x2c69b76deea6968c, 0xeb2d31337a573dc1}},
		{2, 2, api.Pair{0x9bb4d231a7d0b963, 0x1ea0e23c1cfecbf2}},
		{seed, 1, api.Pair{0xd95c9a46b7a370fb, 0x7e6a88a17936c8f9}},
		{seed, never, api.Pair{0xfbc8d249cf71326f, 0x0c5dd39a56735996}},
		{1 << 32, 1, api.Pair{0x55ba70cc7904ef22, 0x65f47cf974033c1d}},
		{math.MaxUint64, 0, api.Pair{0x90e6cad792658508, 0x0e82f2e31fe7b7b6}},
		{math.MaxUint64, 1, api.Pair{0x664bfa85484af36c, 0x147226016916496d}},
		{math.MaxUint64, never, api.Pair{0xdd144fdee7243c12, 0x40e967be70c1f6ba}},
	} {
		if got := keys.Of(x.seed, x.epoch); got != x.want {
			t.Errorf("Of(%x, %d) = %x, want %x", x.seed, x.epoch, got, x.want)
		}
	}
}

func TestEpochsOfOneSeedHaveKeysOfTheirOwn(t *testing.T) {
	epochs := append(from(0, 300), far()...)
	for _, s := range seeds() {
		var l []api.Pair
		for _, e := range epochs {
			if got := keys.Of(s, e); slices.Contains(l, got) {
				t.Errorf("Of(%x, %d) = %x, as another epoch", s, e, got)
			}
			l = append(l, keys.Of(s, e))
		}
	}
}

func TestSeedsHaveKeysOfTheirOwn(t *testing.T) {
	for _, e := range append(from(0, 5), far()...) {
		var l []api.Pair
		for _, s := range seeds() {
			if got := keys.Of(s, e); slices.Contains(l, got) {
				t.Errorf("Of(%x, %d) = %x, as another seed", s, e, got)
			}
			l = append(l, keys.Of(s, e))
		}
	}
}

// P14.1: New

func TestNewHasEpochOne(t *testing.T) {
	k, p := made(t)
	mustHave(t, k, 1)
	mustSpend(t, p, 0, true)
}

func TestNewOfEachSeed(t *testing.T) {
	for _, s := range seeds() {
		k := keys.New(s, power.New())
		mustHaveOf(t, k, s, from(1, 1))
		mustAdd(t, k, 3)
		mustHaveOf(t, k, s, from(1, 4))
		mustErase(t, k, 3)
		mustHaveOf(t, k, s, from(3, 4))
	}
}

func TestNewOfAPowerThatIsOnOrGone(t *testing.T) {
	for _, n := range fuses() {
		p := power.New()
		for range n {
			p.Spend()
		}
		k := keys.New(seed, p)
		mustHave(t, k, 1)
		mustSpend(t, p, n, true)
		lose(p)
		gone := keys.New(seed, p)
		if gone == nil {
			t.Fatal("New of a power that is gone = nil")
		}
		mustHave(t, gone, 1)
		mustNot(t, gone)
		mustSpend(t, p, n, false)
		p.Back()
		mustAdd(t, gone, 1)
		mustHave(t, gone, 1, 2)
		mustHave(t, k, 1)
	}
}

func TestNewLeavesTheFuse(t *testing.T) {
	for _, n := range fuses() {
		p := power.New()
		p.Fuse(n)
		k := keys.New(seed, p)
		mustSpend(t, p, 0, true)
		mustAdd(t, k, n)
		mustNot(t, k)
		mustSpend(t, p, n, false)
	}
}

// P14.1: Add

func TestAddIsOneEpochMore(t *testing.T) {
	k, p := made(t)
	for i := range many {
		mustAdd(t, k, 1)
		mustHave(t, k, from(1, i+2)...)
		mustSpend(t, p, i+1, true)
	}
}

func TestAddBehindErase(t *testing.T) {
	for n := 1; n < 8; n++ {
		for below := 1; below <= n; below++ {
			k, _ := grown(t, n)
			mustErase(t, k, uint32(below))
			for i := range 4 {
				mustAdd(t, k, 1)
				mustHave(t, k, from(below, n+i+1)...)
			}
		}
	}
}

func TestAddNeedsAStep(t *testing.T) {
	k, p := grown(t, 4)
	mustErase(t, k, 2)
	p.Fuse(0)
	if k.Add() {
		t.Fatal("Add at the fuse's end = true")
	}
	mustSpend(t, p, 4, false)
	mustHave(t, k, 2, 3, 4)
	if k.Add() {
		t.Fatal("Add while the power is gone = true")
	}
	mustHave(t, k, 2, 3, 4)
	// What was asked while it was gone is not made up for.
	p.Back()
	mustHave(t, k, 2, 3, 4)
	mustAdd(t, k, 1)
	mustHave(t, k, 2, 3, 4, 5)
	mustSpend(t, p, 5, true)
}

// P14.1: Erase

func TestEraseOfEachNumber(t *testing.T) {
	for n := 1; n < 12; n++ {
		for below := 0; below < n+4; below++ {
			k, p := grown(t, n)
			mustErase(t, k, uint32(below))
			mustHave(t, k, from(min(max(below, 1), n), n)...)
			mustSpend(t, p, n, true)
		}
		for _, below := range far() {
			k, p := grown(t, n)
			mustErase(t, k, below)
			mustHave(t, k, uint32(n))
			mustSpend(t, p, n, true)
		}
	}
}

func TestEraseOfTwoNumbers(t *testing.T) {
	const n = 7
	for first := range n + 3 {
		for second := range n + 3 {
			k, p := grown(t, n)
			mustErase(t, k, uint32(first), uint32(second))
			mustHave(t, k, from(min(max(first, second, 1), n), n)...)
			mustSpend(t, p, n+1, true)
		}
	}
}

func TestEraseOfNothingIsAStep(t *testing.T) {
	k, p := grown(t, 5)
	mustErase(t, k, 3)
	for i := range many {
		mustErase(t, k, uint32(i%4))
		mustSpend(t, p, 6+i, true)
	}
	mustHave(t, k, 3, 4, 5)
}

func TestEraseLeavesTheCurrentOne(t *testing.T) {
	k, _ := made(t)
	for i := range 50 {
		mustErase(t, k, never)
		mustHave(t, k, uint32(i+1))
		mustErase(t, k, uint32(i+2))
		mustHave(t, k, uint32(i+1))
		mustAdd(t, k, 1)
		mustHave(t, k, uint32(i+1), uint32(i+2))
	}
}

func TestEraseReachesNoEpochThatIsAddedBehindIt(t *testing.T) {
	k, _ := grown(t, 3)
	mustErase(t, k, 6)
	mustHave(t, k, 3)
	mustAdd(t, k, 5)
	mustHave(t, k, 3, 4, 5, 6, 7, 8)
}

func TestEraseNeedsAStep(t *testing.T) {
	for _, below := range []uint32{0, 1, 2, 3, 4, 5, never} {
		k, p := grown(t, 4)
		mustErase(t, k, 2)
		p.Fuse(0)
		if k.Erase(below) {
			t.Fatalf("Erase(%d) at the fuse's end = true", below)
		}
		mustSpend(t, p, 4, false)
		mustHave(t, k, 2, 3, 4)
		if k.Erase(below) {
			t.Fatalf("Erase(%d) while the power is gone = true", below)
		}
		mustHave(t, k, 2, 3, 4)
		p.Back()
		mustHave(t, k, 2, 3, 4)
		mustErase(t, k, below)
		mustHave(t, k, from(min(max(int(below), 2), 4), 4)...)
		mustSpend(t, p, 5, true)
	}
}

// P14.1: the power

func TestFuseLetsSoManyBeDone(t *testing.T) {
	for _, n := range fuses() {
		k, p := grown(t, 3)
		p.Fuse(n)
		mustAdd(t, k, n)
		mustHave(t, k, from(1, 3+n)...)
		// The fuse's last step was done: it is gone with the next one only.
		mustSpend(t, p, 2+n, true)
		mustNot(t, k)
		mustSpend(t, p, 2+n, false)
		p.Back()
		p.Fuse(n)
		for i := range n {
			mustErase(t, k, uint32(i))
		}
		mustSpend(t, p, 2+2*n, true)
		mustNot(t, k)
		mustHave(t, k, from(max(n-1, 1), 3+n)...)
		mustSpend(t, p, 2+2*n, false)
	}
}

func TestLongFuseOrNone(t *testing.T) {
	for _, n := range longFuses() {
		k, p := made(t)
		p.Fuse(n)
		mustAdd(t, k, many/2)
		for i := range many / 2 {
			mustErase(t, k, uint32(i))
		}
		mustHave(t, k, from(many/2-1, many/2+1)...)
		mustSpend(t, p, many, true)
	}
}

func TestStepsThatOthersSpend(t *testing.T) {
	k, p := made(t)
	p.Fuse(4)
	p.Spend()
	mustAdd(t, k, 1)
	p.Spend()
	mustErase(t, k, 2)
	mustNot(t, k)
	mustHave(t, k, 2)
	mustSpend(t, p, 4, false)
}

func TestTellingIsNoStep(t *testing.T) {
	k, p := grown(t, 4)
	p.Fuse(1)
	for range many {
		mustHave(t, k, 1, 2, 3, 4)
	}
	mustSpend(t, p, 3, true)
	mustErase(t, k, 2)
	// No step is left, yet the power is not gone, nor does it go by telling.
	for range many {
		mustHave(t, k, 2, 3, 4)
	}
	mustSpend(t, p, 4, true)
	mustNot(t, k)
	for range many {
		mustHave(t, k, 2, 3, 4)
	}
	mustSpend(t, p, 4, false)
}

func TestKeysOutlastCrashes(t *testing.T) {
	k, p := made(t)
	steps, first, last := 0, 1, 1
	for round := range 200 {
		n := round % 5
		p.Fuse(n)
		for i := range n {
			if (round+i)%3 == 0 {
				first = min(first+1, last)
				mustErase(t, k, uint32(first))
			} else {
				last++
				mustAdd(t, k, 1)
			}
		}
		steps += n
		mustNot(t, k)
		mustSpend(t, p, steps, false)
		mustHave(t, k, from(first, last)...)
		p.Back()
		mustHave(t, k, from(first, last)...)
		mustSpend(t, p, steps, true)
	}
	if first < 50 || last < first+50 {
		t.Errorf("these rounds leave %d to %d", first, last)
	}
}

// P14.1: Epochs

func TestEpochsAreNewMemory(t *testing.T) {
	k, _ := grown(t, 5)
	mustErase(t, k, 2)
	was := k.Epochs()
	again := k.Epochs()
	for i := range was[:cap(was)] {
		was[:cap(was)][i] = never
	}
	_ = append(was[:0], 9, 9, 9, 9, 9, 9)
	if !slices.Equal(again, from(2, 5)) {
		t.Errorf("what was answered turned into %v by another answer", again)
	}
	mustHave(t, k, 2, 3, 4, 5)
}

func TestEpochsStayWhatTheyWere(t *testing.T) {
	k, p := grown(t, 3)
	var l [][]uint32
	for i := range 50 {
		l = append(l, k.Epochs())
		mustAdd(t, k, 1)
		l = append(l, k.Epochs())
		mustErase(t, k, uint32(i+2))
		l = append(l, k.Epochs())
	}
	lose(p)
	mustNot(t, k)
	for i := range 50 {
		for j, want := range [][]uint32{from(i+1, i+3), from(i+1, i+4), from(i+2, i+4)} {
			if got := l[3*i+j]; !slices.Equal(got, want) {
				t.Errorf("Epochs, round %d: %v, want %v", i, got, want)
			}
		}
	}
}

// P14.1: two Keys

func TestKeysOfOnePowerShareItsStepsAlone(t *testing.T) {
	p := power.New()
	a, b := keys.New(seed, p), keys.New(1, p)
	mustAdd(t, a, 3)
	mustHaveOf(t, b, 1, from(1, 1))
	mustAdd(t, b, 1)
	mustErase(t, a, 3)
	mustHave(t, a, 3, 4)
	mustHaveOf(t, b, 1, from(1, 2))
	mustSpend(t, p, 5, true)
	p.Fuse(2)
	mustErase(t, b, 2)
	mustAdd(t, a, 1)
	mustNot(t, a)
	if b.Add() || b.Erase(2) {
		t.Error("a step of a fuse that is at its end = true")
	}
	mustHave(t, a, 3, 4, 5)
	mustHaveOf(t, b, 1, from(2, 2))
	mustSpend(t, p, 7, false)
}

func TestKeysOfTwoPowersAreApart(t *testing.T) {
	a, p := grown(t, 3)
	b, q := made(t)
	lose(p)
	mustAdd(t, b, 1)
	mustNot(t, a)
	mustHave(t, b, 1, 2)
	p.Back()
	lose(q)
	mustErase(t, a, 3)
	mustNot(t, b)
	mustHave(t, a, 3)
	mustHave(t, b, 1, 2)
	mustSpend(t, p, 3, true)
	mustSpend(t, q, 1, false)
}

// P14.1 and P14.2: every row of a few acts

// act is what is done of a row: Erase of a number, or another one.
type act int

const (
	eraseToCurrent act = iota + 6 // those ahead of it are Erase of 0 to 5
	eraseToNever
	add
	fuse0
	fuse1
	fuse2
	back
	acts // how many there are
)

// below is what an act that erases is given.
func (x act) below(current uint32) uint32 {
	switch x {
	case eraseToCurrent:
		return current
	case eraseToNever:
		return never
	default:
		return uint32(x)
	}
}

// book is what the document says of Keys, told one epoch at a time.
type book struct {
	there   []uint32
	current uint32
	ever    []uint32 // all that are gone
	on      bool
	left    int
	steps   int
}

// newBook has epoch 1.
func newBook() *book { return &book{there: from(1, 1), current: 1, on: true, left: -1} }

// step is one of its power, if there is one.
func (b *book) step() bool {
	if b.left == 0 {
		b.on = false
	}
	if !b.on {
		return false
	}
	b.left--
	b.steps++
	return true
}

// do does x, and tells what is answered.
func (b *book) do(x act) bool {
	switch {
	case x == back:
		b.on, b.left = true, -1
	case x >= fuse0:
		b.left = int(x - fuse0)
	case !b.step():
	case x == add:
		b.current++
		b.there = append(b.there, b.current)
		return true
	default:
		b.erase(x.below(b.current))
		return true
	}
	return false
}

// erase takes each that is below, but the current one.
func (b *book) erase(below uint32) {
	var stay []uint32
	for _, e := range b.there {
		if e < below && e != b.current {
			b.ever = append(b.ever, e)
		} else {
			stay = append(stay, e)
		}
	}
	b.there = stay
}

// do does x of k, and tells what it answers.
func do(k *keys.Keys, p *power.Power, x act) bool {
	switch {
	case x == back:
		p.Back()
	case x >= fuse0:
		p.Fuse(int(x - fuse0))
	case x == add:
		return k.Add()
	default:
		return k.Erase(x.below(k.Current()))
	}
	return false
}

// replay wants of new Keys what the book tells, behind each act.
func replay(t *testing.T, l []act) {
	t.Helper()
	k, p := made(t)
	b := newBook()
	for i, x := range l {
		want := b.do(x)
		if got := do(k, p, x); got != want {
			t.Fatalf("%v: act %d = %v, want %v", l, i, got, want)
		}
		if got := k.Epochs(); !slices.Equal(got, b.there) {
			t.Fatalf("%v: behind act %d: Epochs = %v, want %v", l, i, got, b.there)
		}
		if got := k.Current(); got != b.current {
			t.Fatalf("%v: behind act %d: Current = %d, want %d", l, i, got, b.current)
		}
		mustSpend(t, p, b.steps, b.on)
		for _, e := range b.ever {
			mustKey(t, k, seed, e, false)
		}
	}
	mustHave(t, k, b.there...)
}

// everyRow replays all rows of so many acts that begin so.
func everyRow(t *testing.T, l []act, size int) {
	t.Helper()
	if len(l) == size {
		replay(t, l)
		return
	}
	for x := range acts {
		everyRow(t, append(l, x), size)
	}
}

func TestEveryRowOfActs(t *testing.T) { everyRow(t, nil, 4) }

func TestEveryRowOfActsWithPower(t *testing.T) {
	// Without the acts of the power the rows can be longer.
	var row func(l []act)
	row = func(l []act) {
		if len(l) == 6 {
			replay(t, l)
			return
		}
		for _, x := range []act{0, 2, 3, eraseToCurrent, eraseToNever, add} {
			row(append(l, x))
		}
	}
	row(nil)
}

func TestLongRowsOfActs(t *testing.T) {
	digits := uint64(1)
	for range 1000 {
		var l []act
		for range 60 {
			digits = digits*6364136223846793005 + 1442695040888963407
			x := act(digits >> 33 % uint64(acts+8))
			if x >= acts {
				x = add
			}
			l = append(l, x)
		}
		replay(t, l)
	}
}

// P14.2

func TestWhatIsGoneNeverComesBack(t *testing.T) {
	k, p := grown(t, 6)
	mustErase(t, k, 4)
	for i := range 40 {
		mustErase(t, k, uint32(i%4))
		for e := range uint32(4) {
			mustKey(t, k, seed, e, false)
		}
		mustAdd(t, k, i%3)
		lose(p)
		mustNot(t, k)
		p.Back()
		for e := range uint32(4) {
			mustKey(t, k, seed, e, false)
		}
	}
	if got := k.Epochs(); got[0] != 4 {
		t.Errorf("Epochs = %v, want 4 as the lowest", got)
	}
}

func TestNilKeys(t *testing.T) {
	var k *keys.Keys
	mustHave(t, k)
	mustNot(t, k)
	mustNot(t, k)
	mustHave(t, k)
}

func TestKeysOfANilPower(t *testing.T) {
	k := keys.New(seed, nil)
	if k == nil {
		t.Fatal("New of a nil power = nil")
	}
	mustHave(t, k, 1)
	mustNot(t, k)
	mustNot(t, k)
	mustHave(t, k, 1)
}

func TestKeysThatNewDidNotMake(t *testing.T) {
	k := &keys.Keys{}
	mustHave(t, k)
	mustNot(t, k)
	mustHave(t, k)
}

// W8

func TestCopyGoesOnAsTheOneItWas(t *testing.T) {
	k, p := grown(t, 4)
	mustErase(t, k, 2)
	c := *k
	mustHave(t, &c, 2, 3, 4)
	p.Fuse(2)
	mustAdd(t, &c, 1)
	mustErase(t, &c, 4)
	mustNot(t, &c)
	mustHave(t, &c, 4, 5)
	p.Back()
	mustSpend(t, p, 6, true)
}
