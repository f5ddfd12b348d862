package count_test

import (
	"math"
	"testing"

	"lockbox/count"
	"lockbox/power"
)

// many is more calls than a fuse of these tests has steps.
const many = 1000

// counted is what a Counter tells.
type counted struct {
	value, boots, at uint64
}

// told is what c tells.
func told(c *count.Counter) counted { return counted{c.Value(), c.Boots(), c.At()} }

// fuses has those at both ends, at small numbers and at single digits.
func fuses() []int { return []int{0, 1, 2, 3, 4, 7, 8, 16, 99, 100, 101, 255, 256, many - 1} }

// longFuses has those of which no test sees the end: of a negative one there is none.
func longFuses() []int {
	return []int{many, 1 << 31, 1 << 32, math.MaxInt64, -1, -2, -1 << 32, math.MinInt64}
}

// calls has the two that count, each with what it makes of what was counted.
func calls() []call {
	return []call{
		{"Bump", (*count.Counter).Bump, func(was counted) counted {
			return counted{was.value + 1, was.boots, was.boots}
		}},
		{"Boot", (*count.Counter).Boot, func(was counted) counted {
			return counted{was.value, was.boots + 1, was.at}
		}},
	}
}

// call is one that counts.
type call struct {
	name  string
	do    func(*count.Counter) bool
	makes func(was counted) counted
}

// made is a new one with its power, which is on.
func made(t *testing.T) (*count.Counter, *power.Power) {
	t.Helper()
	p := power.New()
	c := count.New(p)
	if c == nil {
		t.Fatal("New = nil")
	}
	return c, p
}

// ahead is one at Value 5, Boots 3, At 2, so that no two of these are the same,
// with its power, of which 8 steps are spent.
func ahead(t *testing.T) (*count.Counter, *power.Power) {
	t.Helper()
	c, p := made(t)
	mustBoot(t, c, 2)
	mustBump(t, c, 5)
	mustBoot(t, c, 1)
	mustTell(t, c, counted{5, 3, 2})
	return c, p
}

// mustTell wants these, asked twice: that they are asked changes none.
func mustTell(t *testing.T, c *count.Counter, want counted) {
	t.Helper()
	for range 2 {
		if got := told(c); got != want {
			t.Fatalf("Value, Boots, At = %v, want %v", got, want)
		}
	}
}

// mustBump wants so many Bumps that are done.
func mustBump(t *testing.T, c *count.Counter, n int) {
	t.Helper()
	for i := range n {
		if !c.Bump() {
			t.Fatalf("Bump %d of %d = false", i+1, n)
		}
	}
}

// mustBoot wants so many Boots that are done.
func mustBoot(t *testing.T, c *count.Counter, n int) {
	t.Helper()
	for i := range n {
		if !c.Boot() {
			t.Fatalf("Boot %d of %d = false", i+1, n)
		}
	}
}

// mustNot wants neither call to be done, nor to change anything, however often.
func mustNot(t *testing.T, c *count.Counter) {
	t.Helper()
	was := told(c)
	for range 3 {
		for _, x := range calls() {
			if x.do(c) {
				t.Fatalf("%s without a step = true", x.name)
			}
			mustTell(t, c, was)
		}
	}
}

// mustSpend wants so many steps to be spent of p, and p to be on or not.
func mustSpend(t *testing.T, p *power.Power, steps int, on bool) {
	t.Helper()
	if p.Steps() != steps || p.On() != on {
		t.Fatalf("Steps, On = %d, %v, want %d, %v", p.Steps(), p.On(), steps, on)
	}
}

// lose has p be gone.
func lose(p *power.Power) {
	p.Fuse(0)
	p.Spend()
}

func TestExample(t *testing.T) {
	c := count.New(power.New())
	c.Bump()
	c.Bump()
	if got := c.Value(); got != 2 {
		t.Errorf("Bump, Bump: Value = %d, want 2", got)
	}
}

// P13.1: New

func TestNewIsAtNought(t *testing.T) {
	c, p := made(t)
	mustTell(t, c, counted{})
	mustSpend(t, p, 0, true)
}

func TestNewOfAPowerThatIsOnOrGone(t *testing.T) {
	for _, n := range fuses() {
		p := power.New()
		for range n {
			p.Spend()
		}
		c := count.New(p)
		mustTell(t, c, counted{})
		mustSpend(t, p, n, true)
		lose(p)
		mustSpend(t, p, n, false)
		d := count.New(p)
		if d == nil {
			t.Fatal("New of a power that is gone = nil")
		}
		mustTell(t, d, counted{})
		mustNot(t, d)
		p.Back()
		mustTell(t, d, counted{})
		mustBump(t, d, 1)
		mustTell(t, d, counted{value: 1})
		mustTell(t, c, counted{})
	}
}

func TestNewLeavesTheFuse(t *testing.T) {
	for _, n := range fuses() {
		p := power.New()
		p.Fuse(n)
		c := count.New(p)
		mustSpend(t, p, 0, true)
		mustBump(t, c, n)
		mustNot(t, c)
		mustSpend(t, p, n, false)
	}
}

// P13.1: Bump

func TestBumpIsOneMore(t *testing.T) {
	c, p := made(t)
	for i := range many {
		mustBump(t, c, 1)
		mustTell(t, c, counted{value: uint64(i + 1)})
		mustSpend(t, p, i+1, true)
	}
}

func TestBumpLeavesBoots(t *testing.T) {
	for _, n := range fuses() {
		c, _ := made(t)
		mustBoot(t, c, n)
		for i := range 5 {
			mustBump(t, c, 1)
			mustTell(t, c, counted{uint64(i + 1), uint64(n), uint64(n)})
		}
	}
}

func TestAtIsWhatBootsWasAtTheLastBump(t *testing.T) {
	c, _ := made(t)
	want := counted{}
	for i := range 50 {
		mustBoot(t, c, i%4)
		want.boots += uint64(i % 4)
		mustTell(t, c, want)
		mustBump(t, c, 1)
		want.value++
		want.at = want.boots
		mustTell(t, c, want)
	}
}

// P13.1: Boot

func TestBootIsOneMore(t *testing.T) {
	c, p := made(t)
	for i := range many {
		mustBoot(t, c, 1)
		mustTell(t, c, counted{boots: uint64(i + 1)})
		mustSpend(t, p, i+1, true)
	}
}

func TestBootLeavesValueAndAt(t *testing.T) {
	for _, n := range fuses() {
		c, _ := made(t)
		mustBoot(t, c, 3)
		mustBump(t, c, n)
		want := counted{value: uint64(n), boots: 3}
		if n > 0 {
			want.at = 3
		}
		for range 5 {
			mustBoot(t, c, 1)
			want.boots++
			mustTell(t, c, want)
		}
	}
}

// P13.1: the power

func TestEachThatIsDoneSpendsOneStep(t *testing.T) {
	for _, x := range calls() {
		c, p := ahead(t)
		want := counted{5, 3, 2}
		for i := range 100 {
			if !x.do(c) {
				t.Fatalf("%s = false", x.name)
			}
			want = x.makes(want)
			mustTell(t, c, want)
			mustSpend(t, p, 8+i+1, true)
		}
	}
}

func TestFuseLetsSoManyBeDone(t *testing.T) {
	for _, x := range calls() {
		for _, n := range fuses() {
			c, p := ahead(t)
			p.Fuse(n)
			want := counted{5, 3, 2}
			for i := range n {
				if !x.do(c) {
					t.Fatalf("Fuse(%d): %s %d = false", n, x.name, i+1)
				}
				want = x.makes(want)
			}
			mustTell(t, c, want)
			// The fuse's last step was done: it is gone with the next one only.
			mustSpend(t, p, 8+n, true)
			if x.do(c) {
				t.Fatalf("Fuse(%d): %s behind it = true", n, x.name)
			}
			mustSpend(t, p, 8+n, false)
			mustTell(t, c, want)
			mustNot(t, c)
			mustSpend(t, p, 8+n, false)
		}
	}
}

func TestLongFuseOrNone(t *testing.T) {
	for _, n := range longFuses() {
		c, p := made(t)
		p.Fuse(n)
		mustBoot(t, c, many/2)
		mustBump(t, c, many/2)
		mustTell(t, c, counted{many / 2, many / 2, many / 2})
		mustSpend(t, p, many, true)
	}
}

func TestBothSpendOfOneFuse(t *testing.T) {
	for _, n := range fuses() {
		c, p := made(t)
		p.Fuse(n)
		want := counted{}
		for i := range n {
			x := calls()[i%2]
			if !x.do(c) {
				t.Fatalf("Fuse(%d): %s, step %d = false", n, x.name, i+1)
			}
			want = x.makes(want)
		}
		mustNot(t, c)
		mustTell(t, c, want)
		mustSpend(t, p, n, false)
	}
}

func TestNothingIsDoneWhileThePowerIsGone(t *testing.T) {
	c, p := ahead(t)
	lose(p)
	for range many {
		mustNot(t, c)
	}
	mustTell(t, c, counted{5, 3, 2})
	mustSpend(t, p, 8, false)
	// What was asked while it was gone is not made up for.
	p.Back()
	mustTell(t, c, counted{5, 3, 2})
	mustSpend(t, p, 8, true)
}

func TestAtIsNotMovedByABumpThatIsNotDone(t *testing.T) {
	c, p := made(t)
	mustBoot(t, c, 1)
	mustBump(t, c, 1)
	mustBoot(t, c, 1)
	p.Fuse(0)
	if c.Bump() {
		t.Fatal("Bump without a step = true")
	}
	p.Back()
	mustTell(t, c, counted{1, 2, 1})
	mustBump(t, c, 1)
	mustTell(t, c, counted{2, 2, 2})
}

func TestEachIsDoneAgainBehindBack(t *testing.T) {
	for _, x := range calls() {
		c, p := ahead(t)
		lose(p)
		mustNot(t, c)
		p.Back()
		if !x.do(c) {
			t.Fatalf("%s behind Back = false", x.name)
		}
		mustTell(t, c, x.makes(counted{5, 3, 2}))
		mustSpend(t, p, 9, true)
	}
}

func TestStepsThatOthersSpend(t *testing.T) {
	c, p := made(t)
	p.Fuse(3)
	p.Spend()
	mustBump(t, c, 1)
	p.Spend()
	mustNot(t, c)
	mustTell(t, c, counted{value: 1})
	mustSpend(t, p, 3, false)
}

// P13.1: what is counted is told without power

func TestTellingIsNoStep(t *testing.T) {
	c, p := ahead(t)
	p.Fuse(1)
	for range many {
		mustTell(t, c, counted{5, 3, 2})
	}
	mustSpend(t, p, 8, true)
	mustBump(t, c, 1)
	// No step is left, yet the power is not gone, nor does it go by telling.
	for range many {
		mustTell(t, c, counted{6, 3, 3})
	}
	mustSpend(t, p, 9, true)
	mustNot(t, c)
	for range many {
		mustTell(t, c, counted{6, 3, 3})
	}
	mustSpend(t, p, 9, false)
}

// P13.1: crashes

func TestWhatIsCountedOutlastsCrashes(t *testing.T) {
	c, p := made(t)
	want, steps := counted{}, 0
	for round := range 300 {
		n := round % 7
		p.Fuse(n)
		for i := range n {
			x := calls()[(round+i/2)%2]
			if !x.do(c) {
				t.Fatalf("Fuse(%d): %s, step %d = false", n, x.name, i+1)
			}
			want = x.makes(want)
		}
		steps += n
		mustNot(t, c)
		mustTell(t, c, want)
		mustSpend(t, p, steps, false)
		p.Back()
		mustTell(t, c, want)
		mustSpend(t, p, steps, true)
	}
	if want.value == 0 || want.boots == 0 || want.at == 0 {
		t.Errorf("these rounds count nothing: %v", want)
	}
}

func TestCrashesWithNothingBetween(t *testing.T) {
	c, p := ahead(t)
	for range many {
		lose(p)
		mustTell(t, c, counted{5, 3, 2})
		p.Back()
		p.Back()
		mustTell(t, c, counted{5, 3, 2})
	}
	mustSpend(t, p, 8, true)
}

// P13.1: two Counters

func TestCountersOfOnePowerShareItsStepsAlone(t *testing.T) {
	p := power.New()
	a, b := count.New(p), count.New(p)
	mustBump(t, a, 3)
	mustTell(t, b, counted{})
	mustBoot(t, b, 2)
	mustTell(t, a, counted{value: 3})
	mustSpend(t, p, 5, true)
	mustBump(t, b, 1)
	mustTell(t, a, counted{value: 3})
	mustTell(t, b, counted{1, 2, 2})
	// Of four steps more each takes what the other leaves.
	p.Fuse(4)
	mustBoot(t, a, 1)
	mustBump(t, b, 2)
	mustBump(t, a, 1)
	mustNot(t, b)
	mustNot(t, a)
	mustTell(t, a, counted{4, 1, 1})
	mustTell(t, b, counted{3, 2, 2})
	mustSpend(t, p, 10, false)
	p.Back()
	mustTell(t, a, counted{4, 1, 1})
	mustTell(t, b, counted{3, 2, 2})
	mustBump(t, b, 1)
	mustTell(t, a, counted{4, 1, 1})
}

func TestCountersOfTwoPowersAreApart(t *testing.T) {
	a, p := ahead(t)
	b, q := made(t)
	lose(p)
	mustBump(t, b, 2)
	mustNot(t, a)
	mustTell(t, a, counted{5, 3, 2})
	mustTell(t, b, counted{value: 2})
	mustSpend(t, q, 2, true)
	p.Back()
	lose(q)
	mustBoot(t, a, 1)
	mustNot(t, b)
	mustTell(t, a, counted{5, 4, 2})
	mustTell(t, b, counted{value: 2})
	mustSpend(t, p, 9, true)
}

// P13.1: every row of a few acts

// act is what is done of a row.
type act int

const (
	bump act = iota
	boot
	fuse0
	fuse1
	fuse2
	back
	acts // how many there are
)

// counts says whether x is one that asks for a step.
func (x act) counts() bool { return x == bump || x == boot }

// steps says of these acts which are done. A fuse that is laid while the power is
// gone does not bring it back.
func steps(l []act) []bool {
	done := make([]bool, len(l))
	left, on := -1, true
	for i, x := range l {
		switch {
		case x == back:
			left, on = -1, true
		case !x.counts():
			left = int(x - fuse0)
		case on && left != 0:
			done[i] = true
			left--
		default:
			on = false
		}
	}
	return done
}

// sum tells what is counted behind these acts, each of its numbers on its own: how
// many of a kind were done, and how many Boots stand ahead of the last Bump.
func sum(l []act, done []bool) counted {
	n := func(l []act, kind act) (n uint64) {
		for i, x := range l {
			if x == kind && done[i] {
				n++
			}
		}
		return n
	}
	last := 0
	for i, x := range l {
		if x == bump && done[i] {
			last = i
		}
	}
	return counted{n(l, bump), n(l, boot), n(l[:last], boot)}
}

// do does x, and tells what it answers.
func do(c *count.Counter, p *power.Power, x act) bool {
	switch x {
	case bump:
		return c.Bump()
	case boot:
		return c.Boot()
	case back:
		p.Back()
	default:
		p.Fuse(int(x - fuse0))
	}
	return false
}

// replay wants of a new Counter what steps and sum tell, behind each act.
func replay(t *testing.T, l []act) {
	t.Helper()
	c, p := made(t)
	done := steps(l)
	for i, x := range l {
		if got := do(c, p, x); got != done[i] {
			t.Fatalf("%v: act %d = %v, want %v", l, i, got, done[i])
		}
		want := sum(l[:i+1], done)
		if got := told(c); got != want {
			t.Fatalf("%v: behind act %d: %v, want %v", l, i, got, want)
		}
		if got := p.Steps(); uint64(got) != want.value+want.boots {
			t.Fatalf("%v: behind act %d: Steps = %d, want %d", l, i, got, want.value+want.boots)
		}
	}
}

// everyRow replays all rows of so many acts that begin so.
func everyRow(t *testing.T, l []act, size int) {
	t.Helper()
	if len(l) == size {
		replay(t, l)
		return
	}
	for x := range acts {
		everyRow(t, append(l, x), size)
	}
}

func TestEveryRowOfActs(t *testing.T) { everyRow(t, nil, 7) }

func TestLongRowsOfActs(t *testing.T) {
	digits := uint64(1)
	for range 2000 {
		var l []act
		for range 40 {
			digits = digits*6364136223846793005 + 1442695040888963407
			l = append(l, act(digits>>33%uint64(acts)))
		}
		replay(t, l)
	}
}

// P13.2

func TestNilCounter(t *testing.T) {
	var c *count.Counter
	mustTell(t, c, counted{})
	mustNot(t, c)
	mustNot(t, c)
	mustTell(t, c, counted{})
}

func TestCounterOfANilPower(t *testing.T) {
	// One that New did not make is as one of a nil power.
	for _, c := range []*count.Counter{count.New(nil), {}} {
		if c == nil {
			t.Fatal("New of a nil power = nil")
		}
		mustTell(t, c, counted{})
		mustNot(t, c)
		mustNot(t, c)
		mustTell(t, c, counted{})
	}
}

// W8

func TestCopyGoesOnAsTheOneItWas(t *testing.T) {
	c, p := ahead(t)
	d := *c
	mustTell(t, &d, counted{5, 3, 2})
	p.Fuse(2)
	mustBump(t, &d, 1)
	mustBoot(t, &d, 1)
	mustNot(t, &d)
	p.Back()
	mustTell(t, &d, counted{6, 4, 3})
	mustSpend(t, p, 10, true)
}
