package power_test

import (
	"math"
	"testing"

	"lockbox/power"
)

// many is more steps than a fuse of these tests has.
const many = 1000

// fuses has those at both ends, at small numbers and at single digits.
func fuses() []int {
	return []int{0, 1, 2, 3, 4, 7, 8, 16, 99, 100, 101, 255, 256, 500, many - 1}
}

// longFuses has those of which no test sees the end.
func longFuses() []int {
	return []int{many, 1<<31 - 1, 1 << 31, 1<<32 - 1, 1 << 32, 1<<32 + 1, math.MaxInt64 - 1, math.MaxInt64}
}

// noFuses has those that are none: of some the lowest 32 digits are a fuse.
func noFuses() []int {
	return []int{-1, -2, -3, -100, -1 << 31, -1<<31 - 1, -1 << 32, -1<<32 + 1, math.MinInt64 + 1, math.MinInt64}
}

// mustBe wants a Power that is on or not, with so many steps, asked twice.
func mustBe(t *testing.T, p *power.Power, on bool, steps int) {
	t.Helper()
	for range 2 {
		if got := p.On(); got != on {
			t.Fatalf("On = %v behind %d steps, want %v", got, p.Steps(), on)
		}
		if got := p.Steps(); got != steps {
			t.Fatalf("Steps = %d, want %d", got, steps)
		}
	}
}

// mustStep wants n steps that are done, and to be on behind each.
func mustStep(t *testing.T, p *power.Power, n int) {
	t.Helper()
	was := p.Steps()
	for i := range n {
		if !p.Spend() {
			t.Fatalf("step %d of %d is not done", i+1, n)
		}
		mustBe(t, p, true, was+i+1)
	}
}

// mustGo wants the next step not to be done, and it to be gone behind it.
func mustGo(t *testing.T, p *power.Power) {
	t.Helper()
	was := p.Steps()
	mustBe(t, p, true, was)
	if p.Spend() {
		t.Fatalf("a step is done behind %d", was)
	}
	mustBeGone(t, p, was)
}

// mustBeGone wants it to be gone and to stay so, with no step more.
func mustBeGone(t *testing.T, p *power.Power, steps int) {
	t.Helper()
	mustBe(t, p, false, steps)
	for range 3 {
		if p.Spend() {
			t.Fatalf("gone behind %d steps: a step is done", steps)
		}
		mustBe(t, p, false, steps)
	}
}

// gone is one that went behind so many steps.
func gone(t *testing.T, steps int) *power.Power {
	t.Helper()
	p := power.New()
	p.Fuse(steps)
	mustStep(t, p, steps)
	mustGo(t, p)
	return p
}

func TestExample(t *testing.T) {
	p := power.New()
	p.Fuse(1)
	if a, b := p.Spend(), p.Spend(); !a || b {
		t.Errorf("Fuse(1): Spend, Spend = %v, %v, want true, false", a, b)
	}
}

// P10.1: New

func TestNewIsOnWithoutAFuse(t *testing.T) {
	p := power.New()
	mustBe(t, p, true, 0)
	mustStep(t, p, 10*many)
}

func TestPowersAreApart(t *testing.T) {
	a, b := power.New(), power.New()
	a.Fuse(1)
	mustStep(t, a, 1)
	mustBe(t, b, true, 0)
	mustGo(t, a)
	mustStep(t, b, 3)
	b.Back()
	mustBeGone(t, a, 1)
	a.Back()
	b.Fuse(0)
	mustStep(t, a, 3)
	mustGo(t, b)
	mustBe(t, a, true, 4)
	mustBe(t, power.New(), true, 0)
}

// P10.1: Fuse and Spend

func TestFuseLetsSoManyStepsBe(t *testing.T) {
	for _, n := range fuses() {
		p := power.New()
		p.Fuse(n)
		mustBe(t, p, true, 0)
		mustStep(t, p, n)
		mustGo(t, p)
	}
}

func TestFuseCountsFromWhereItIsLaid(t *testing.T) {
	for _, n := range fuses() {
		for _, ahead := range []int{1, 2, 99, many} {
			p := power.New()
			mustStep(t, p, ahead)
			p.Fuse(n)
			mustBe(t, p, true, ahead)
			mustStep(t, p, n)
			mustGo(t, p)
		}
	}
}

func TestLongFuse(t *testing.T) {
	for _, n := range longFuses() {
		p := power.New()
		p.Fuse(n)
		mustStep(t, p, many)
		mustBe(t, p, true, many)
	}
}

func TestFuseBelowNoughtIsNone(t *testing.T) {
	for _, n := range noFuses() {
		p := power.New()
		p.Fuse(n)
		mustBe(t, p, true, 0)
		mustStep(t, p, many)
	}
}

func TestFuseBelowNoughtTakesOneAway(t *testing.T) {
	for _, n := range noFuses() {
		for _, first := range fuses() {
			p := power.New()
			p.Fuse(first)
			mustStep(t, p, first/2)
			p.Fuse(n)
			mustBe(t, p, true, first/2)
			mustStep(t, p, many)
			// A fuse may be laid again behind it.
			p.Fuse(2)
			mustStep(t, p, 2)
			mustGo(t, p)
		}
	}
}

func TestFuseOverAnotherOne(t *testing.T) {
	for _, first := range append(fuses(), longFuses()...) {
		for _, n := range fuses() {
			done := min(first, 5)
			p := power.New()
			p.Fuse(first)
			mustStep(t, p, done)
			p.Fuse(n)
			mustBe(t, p, true, done)
			mustStep(t, p, n)
			mustGo(t, p)
		}
	}
}

func TestFuseOverOneOfWhichNoStepIsLeft(t *testing.T) {
	// It is not gone yet: the fuse that is laid last decides.
	p := power.New()
	p.Fuse(0)
	p.Fuse(3)
	mustStep(t, p, 3)
	p.Fuse(1)
	mustStep(t, p, 1)
	p.Fuse(-1)
	mustStep(t, p, many)
}

func TestFuseOfOneThatIsGone(t *testing.T) {
	for _, l := range [][]int{fuses(), longFuses(), noFuses()} {
		for _, n := range l {
			p := gone(t, 4)
			p.Fuse(n)
			mustBeGone(t, p, 4)
			p.Back()
			// What was laid while it was gone is no more.
			mustBe(t, p, true, 4)
			mustStep(t, p, many)
		}
	}
}

func TestSpendOfOneThatIsGoneIsNoStep(t *testing.T) {
	for _, n := range []int{0, 1, 50} {
		p := gone(t, n)
		for range many {
			if p.Spend() {
				t.Fatalf("gone behind %d steps: a step is done", n)
			}
			mustBe(t, p, false, n)
		}
	}
}

// P10.1: On

func TestOnIsNoStep(t *testing.T) {
	p := power.New()
	p.Fuse(1)
	for range many {
		if !p.On() {
			t.Fatal("On = false, with a step left")
		}
	}
	mustStep(t, p, 1)
	// The last step of the fuse was done: it is gone with the next one only.
	for range many {
		if !p.On() {
			t.Fatal("On = false behind the last step of a fuse")
		}
	}
	mustGo(t, p)
}

// P10.1: Back

func TestBackOfOneThatIsGone(t *testing.T) {
	for _, n := range fuses() {
		p := gone(t, n)
		p.Back()
		mustBe(t, p, true, n)
		mustStep(t, p, many)
	}
}

func TestBackOfOneThatIsOn(t *testing.T) {
	p := power.New()
	p.Back()
	mustBe(t, p, true, 0)
	mustStep(t, p, 3)
	p.Back()
	mustBe(t, p, true, 3)
	mustStep(t, p, many)
}

func TestBackTakesTheFuseAway(t *testing.T) {
	for _, l := range [][]int{fuses(), longFuses(), noFuses()} {
		for _, n := range l {
			done := min(max(n, 0), 3)
			p := power.New()
			p.Fuse(n)
			mustStep(t, p, done)
			p.Back()
			mustBe(t, p, true, done)
			mustStep(t, p, many)
		}
	}
}

func TestFuseBehindBack(t *testing.T) {
	p, steps := power.New(), 0
	for _, n := range fuses() {
		p.Fuse(n)
		mustStep(t, p, n)
		mustGo(t, p)
		p.Back()
		steps += n
		mustBe(t, p, true, steps)
	}
}

// P10.1: Steps

func TestStepsAreCountedAcrossBack(t *testing.T) {
	p := power.New()
	for round := range 20 {
		p.Fuse(3)
		mustStep(t, p, 3)
		mustGo(t, p)
		p.Back()
		p.Back()
		mustStep(t, p, 2)
		mustBe(t, p, true, 5*(round+1))
	}
}

// P10.1: every row of a few calls

// call is a call that changes something.
type call struct {
	kind int
	n    int
}

const (
	fuse = iota
	spend
	back
)

// history tells of calls what the last of them answers (of a Spend), and how it
// is behind them. It reads the calls anew from the first each time, as the book
// tells them: since the last fuse or Back so many steps were done.
func history(l []call) (done, on bool, steps int) {
	bound, since := -1, 0
	on = true
	for _, c := range l {
		done = false
		switch c.kind {
		case fuse:
			bound, since = c.n, 0
		case back:
			on, bound, since = true, -1, 0
		case spend:
			on = on && (bound < 0 || since < bound)
			if done = on; done {
				since++
				steps++
			}
		}
	}
	return done, on, steps
}

// replay wants of a new Power what history tells, behind each call.
func replay(t *testing.T, l []call) {
	t.Helper()
	p := power.New()
	for i, c := range l {
		done, on, steps := history(l[:i+1])
		got := false
		switch c.kind {
		case fuse:
			p.Fuse(c.n)
		case back:
			p.Back()
		case spend:
			got = p.Spend()
		}
		if got != done || p.On() != on || p.Steps() != steps {
			t.Fatalf("%v: call %d: %v, On %v, Steps %d, want %v, %v, %d", l, i, got, p.On(), p.Steps(), done, on, steps)
		}
	}
}

// everyRow replays all rows of so many calls that begin so.
func everyRow(t *testing.T, l []call, size int) {
	t.Helper()
	if len(l) == size {
		replay(t, l)
		return
	}
	for _, c := range []call{{fuse, -1}, {fuse, 0}, {fuse, 1}, {fuse, 2}, {spend, 0}, {back, 0}} {
		everyRow(t, append(l, c), size)
	}
}

func TestEveryRowOfCalls(t *testing.T) { everyRow(t, nil, 7) }

// P10.2

func TestNilPower(t *testing.T) {
	var p *power.Power
	mustBeGone(t, p, 0)
	for _, l := range [][]int{fuses(), longFuses(), noFuses()} {
		for _, n := range l {
			p.Fuse(n)
			mustBeGone(t, p, 0)
			p.Back()
			mustBeGone(t, p, 0)
			p.Back()
			p.Fuse(n)
			mustBeGone(t, p, 0)
		}
	}
}

// W8

func TestPowerThatNobodyMade(t *testing.T) {
	p := &power.Power{}
	mustBeGone(t, p, 0)
	p.Fuse(3)
	mustBeGone(t, p, 0)
	p.Back()
	mustBe(t, p, true, 0)
	mustStep(t, p, many)
}

func TestCopyGoesOnAsTheOneItWas(t *testing.T) {
	p := power.New()
	p.Fuse(5)
	mustStep(t, p, 2)
	q := *p
	mustBe(t, &q, true, 2)
	mustStep(t, &q, 3)
	mustGo(t, &q)
	q.Back()
	mustBe(t, &q, true, 5)
}
