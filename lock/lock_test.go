package lock_test

import (
	"bytes"
	"encoding/binary"
	"math"
	"slices"
	"testing"

	"lockbox/api"
	"lockbox/digest"
	"lockbox/flow"
	"lockbox/gcm"
	"lockbox/lock"
	"lockbox/oracle"
)

var (
	some  = api.Pair{0x0f0e0d0c0b0a0908, 0x0706050403020100}
	other = api.Pair{0x123456789abcdef0, 0xfedcba9876543210}
	ones  = api.Pair{math.MaxUint64, math.MaxUint64}
	once  = api.Nonce{Epoch: 1, Slot: 2, Version: 3}
	last  = api.Nonce{Epoch: math.MaxUint32, Slot: math.MaxUint32, Version: math.MaxUint64}
)

// kinds has what makes a Lock, by name.
func kinds() map[string]func() *lock.Lock {
	return map[string]func() *lock.Lock{"Real": lock.Real, "Ideal": lock.Ideal}
}

// lengths has those around 8 and 16 bytes, and the bound.
func lengths() []int {
	return []int{0, 1, 7, 8, 9, 15, 16, 17, 32, 257, api.MaxBytes - 1, api.MaxBytes}
}

// beyond has sizes of head and data of which at least one is refused.
func beyond() [][2]int {
	return [][2]int{
		{api.MaxBytes + 1, 0}, {0, api.MaxBytes + 1},
		{api.MaxBytes + 1, api.MaxBytes}, {api.MaxBytes, api.MaxBytes + 1},
		{api.MaxBytes + 1, api.MaxBytes + 1}, {1 << 20, 1}, {1, 1 << 20},
	}
}

// counted is the bytes from, from + 1 .., n of them.
func counted(from byte, n int) []byte {
	b := make([]byte, n)
	for i := range b {
		b[i] = from + byte(i)
	}
	return b
}

// roomy is a copy of b with spare room behind its end, marked by 0xee.
func roomy(b []byte) []byte {
	all := append(slices.Clone(b), bytes.Repeat([]byte{0xee}, 24)...)
	return all[:len(b):len(all)]
}

// whole is b with its spare room.
func whole(b []byte) []byte { return b[:cap(b)] }

// smear overwrites b and its spare room.
func smear(b []byte) {
	for i := range whole(b) {
		whole(b)[i] = 0xdd
	}
}

// at is once with another Version.
func at(version int) api.Nonce {
	n := once
	n.Version = uint64(version)
	return n
}

// book is what chapter 7's seal of this number and size is, word for word.
func book(number uint64, size int) api.Sealed {
	var b []byte
	for len(b) < size {
		b = binary.BigEndian.AppendUint64(b, number)
	}
	return api.Sealed{Bytes: b[:size], Tag: api.Pair{0xffffffffffffffff, number}}
}

// same says whether both have the same bytes and the same tag.
func same(a, b api.Sealed) bool { return bytes.Equal(a.Bytes, b.Bytes) && a.Tag == b.Tag }

// mustSeal wants just this.
func mustSeal(t *testing.T, l *lock.Lock, key api.Pair, n api.Nonce, head, data []byte, want api.Sealed) {
	t.Helper()
	if s, ok := l.Seal(key, n, head, data); !ok || !same(s, want) {
		t.Fatalf("Seal of a head of %d and data of %d = %x, %#x, %v, want %x, %#x", len(head), len(data), s.Bytes, s.Tag, ok, want.Bytes, want.Tag)
	}
}

// mustNotSeal wants nothing, false.
func mustNotSeal(t *testing.T, l *lock.Lock, head, data []byte) {
	t.Helper()
	if s, ok := l.Seal(some, once, head, data); ok || len(s.Bytes) != 0 || s.Tag != (api.Pair{}) {
		t.Errorf("Seal of a head of %d and data of %d has %d bytes, %#x, %v, want nothing, false", len(head), len(data), len(s.Bytes), s.Tag, ok)
	}
}

// mustOpen wants just this data.
func mustOpen(t *testing.T, l *lock.Lock, key api.Pair, n api.Nonce, head []byte, s api.Sealed, data []byte) {
	t.Helper()
	if b, ok := l.Open(key, n, head, s); !ok || !bytes.Equal(b, data) {
		t.Errorf("Open of a head of %d and %d bytes = %x, %v, want %x, true", len(head), len(s.Bytes), b, ok, data)
	}
}

// mustNotOpen wants nil, false.
func mustNotOpen(t *testing.T, what string, l *lock.Lock, key api.Pair, n api.Nonce, head []byte, s api.Sealed) {
	t.Helper()
	if b, ok := l.Open(key, n, head, s); ok || b != nil {
		t.Errorf("%s: Open of a head of %d and %d bytes = %x, %v, want nil, false", what, len(head), len(s.Bytes), b, ok)
	}
}

// mustSum wants this for these rows.
func mustSum(t *testing.T, what string, l *lock.Lock, want api.Pair, rows ...[]byte) {
	t.Helper()
	if got := l.Sum(rows...); got != want {
		t.Errorf("%s: Sum = %#x, want %#x", what, got, want)
	}
}

// mustHave wants just these Issues, and Twice to be that.
func mustHave(t *testing.T, what string, l *lock.Lock, want []api.Issue, twice bool) {
	t.Helper()
	mustBe(t, what, l.Issued(), want)
	if got := l.Twice(); got != twice {
		t.Errorf("%s: Twice = %v", what, got)
	}
}

// mustBe wants these Issues in a list.
func mustBe(t *testing.T, what string, got, want []api.Issue) {
	t.Helper()
	if len(got) != len(want) {
		t.Fatalf("%s: %d are Issued, want %d", what, len(got), len(want))
	}
	for i, x := range want {
		y := got[i]
		if y.Key != x.Key || y.Nonce != x.Nonce || !bytes.Equal(y.Head, x.Head) || !bytes.Equal(y.Data, x.Data) || !same(y.Out, x.Out) {
			t.Errorf("%s: Issued %d is %v, want %v", what, i, y, x)
		}
	}
}

// number is what chapter 7's Sum answers.
func number(n uint64) api.Pair { return api.Pair{0xeeeeeeeeeeeeeeee, n} }

// turns is all that differs from what was sealed in one place, each with its name.
func turns(key api.Pair, n api.Nonce, head []byte, s api.Sealed, f func(what string, key api.Pair, n api.Nonce, head []byte, s api.Sealed)) {
	for i := range 128 {
		k, tag := key, s.Tag
		k[i/64] ^= 1 << (i % 64)
		tag[i/64] ^= 1 << (i % 64)
		f("another key", k, n, head, s)
		f("another Tag", key, n, head, api.Sealed{Bytes: s.Bytes, Tag: tag})
	}
	for i := range 32 {
		epoch, slot := n, n
		epoch.Epoch ^= 1 << i
		slot.Slot ^= 1 << i
		f("another Epoch", key, epoch, head, s)
		f("another Slot", key, slot, head, s)
	}
	for i := range 64 {
		version := n
		version.Version ^= 1 << i
		f("another Version", key, version, head, s)
	}
	for i := range 8 * len(head) {
		h := slices.Clone(head)
		h[i/8] ^= 1 << (i % 8)
		f("another head", key, n, h, s)
	}
	for i := range 8 * len(s.Bytes) {
		b := slices.Clone(s.Bytes)
		b[i/8] ^= 1 << (i % 8)
		f("another byte", key, n, head, api.Sealed{Bytes: b, Tag: s.Tag})
	}
	for i := range head {
		f("less of the head", key, n, head[:i], s)
	}
	for i := range s.Bytes {
		f("less of the bytes", key, n, head, api.Sealed{Bytes: s.Bytes[:i], Tag: s.Tag})
	}
	f("more of the head", key, n, append(slices.Clone(head), 0), s)
	f("more of the bytes", key, n, head, api.Sealed{Bytes: append(slices.Clone(s.Bytes), 0), Tag: s.Tag})
	f("a head beyond the bound", key, n, make([]byte, api.MaxBytes+1), s)
	f("bytes beyond the bound", key, n, head, api.Sealed{Bytes: make([]byte, api.MaxBytes+1), Tag: s.Tag})
}

// P8.1: Real

func TestExample(t *testing.T) {
	l := lock.Real()
	for _, rows := range [][][]byte{nil, {nil}, {{}}, {[]byte("a")}, {[]byte("a"), nil, []byte("bc")}, {counted(1, 100), counted(7, api.MaxBytes+1)}} {
		mustSum(t, "the chapter's", l, digest.Sum(rows...), rows...)
	}
}

func TestRealOfKnownValues(t *testing.T) {
	// No bytes are one Step: of the mark 80 alone, with the count 0.
	start := api.Pair{0x6a09e667f3bcc908, 0xbb67ae8584caa73b}
	l := lock.Real()
	mustSum(t, "no rows", l, digest.Step(start, api.Pair{0x80 << 56, 0}))
	mustSum(t, "one byte", l, digest.Step(start, api.Pair{0x6180 << 48, 1}), []byte("a"))
}

func TestRealSealsAndOpensAsGcm(t *testing.T) {
	l := lock.Real()
	for _, key := range []api.Pair{{}, some, ones} {
		for _, n := range []api.Nonce{{}, once, last} {
			for _, h := range lengths() {
				for _, d := range []int{0, 1, 16, 17, api.MaxBytes} {
					head, data := counted(1, h), counted(101, d)
					want, ok := gcm.Seal(key, n, head, data)
					if !ok {
						t.Fatalf("gcm refuses %d and %d", h, d)
					}
					mustSeal(t, l, key, n, head, data, want)
					mustOpen(t, l, key, n, head, want, data)
				}
			}
		}
	}
	mustHave(t, "behind many seals, of one number too", l, nil, false)
}

func TestRealOfEveryLengthOfData(t *testing.T) {
	l := lock.Real()
	for _, d := range lengths() {
		data := counted(50, d)
		want, _ := gcm.Seal(some, at(d), nil, data)
		mustSeal(t, l, some, at(d), nil, data, want)
		mustOpen(t, l, some, at(d), nil, want, data)
	}
}

func TestRealRefusesBeyondTheBound(t *testing.T) {
	// The Tag is the right one: the bound alone refuses.
	l, sub := lock.Real(), flow.Sub(some, once)
	for _, x := range beyond() {
		head, data := counted(1, x[0]), counted(9, x[1])
		mustNotSeal(t, l, head, data)
		mustNotOpen(t, "beyond the bound", l, some, once, head, api.Sealed{Bytes: data, Tag: gcm.Tag(sub, head, data)})
	}
	// Spare room beyond the bound is none of it.
	data := make([]byte, api.MaxBytes, 2*api.MaxBytes)
	want, _ := gcm.Seal(some, once, data, data)
	mustSeal(t, l, some, once, data, data, want)
}

func TestRealOpensAsGcmWhatWasTurned(t *testing.T) {
	l := lock.Real()
	for _, d := range []int{0, 1, 20} {
		head, data := counted(1, 9), counted(101, d)
		s, _ := l.Seal(some, once, head, data)
		turns(some, once, head, s, func(what string, key api.Pair, n api.Nonce, head []byte, s api.Sealed) {
			b, ok := l.Open(key, n, head, s)
			want, is := gcm.Open(key, n, head, s)
			if ok != is || !bytes.Equal(b, want) {
				t.Errorf("%s: Open = %x, %v, want %x, %v as gcm", what, b, ok, want, is)
			}
			if ok {
				t.Errorf("%s: it is opened", what)
			}
		})
		mustOpen(t, l, some, once, head, s, data)
	}
}

func TestRealRemembersNothing(t *testing.T) {
	l := lock.Real()
	head, data := []byte("head"), []byte("eleven byte")
	// What gcm sealed is opened though this Lock never sealed it.
	s, _ := gcm.Seal(some, once, head, data)
	mustOpen(t, l, some, once, head, s, data)
	sum := digest.Sum(data)
	for range 3 {
		mustSeal(t, l, some, once, head, data, s)
		mustSum(t, "again and again", l, sum, data)
		mustHave(t, "one key and one Nonce", l, nil, false)
	}
	x, _ := gcm.Seal(some, once, head, counted(1, 40))
	mustSeal(t, l, some, once, head, counted(1, 40), x)
	mustHave(t, "one key and one Nonce, other data", l, nil, false)
	mustOpen(t, lock.Real(), some, once, head, s, data)
}

func TestRealSumIsTheSameHoweverParted(t *testing.T) {
	l := lock.Real()
	row := counted(3, 70)
	want := digest.Sum(row)
	for i := range row {
		for _, j := range []int{i, (i + len(row)) / 2, len(row)} {
			mustSum(t, "parted", l, want, row[:i], row[i:j], nil, row[j:])
		}
	}
}

// P8.1: Ideal

func TestIdealOfKnownValues(t *testing.T) {
	l := lock.Ideal()
	head := []byte("head")
	for i, want := range [][]byte{
		{},
		{0},
		{0, 0, 0, 0, 0, 0, 0},
		{0, 0, 0, 0, 0, 0, 0, 4},
		{0, 0, 0, 0, 0, 0, 0, 5, 0},
		{0, 0, 0, 0, 0, 0, 0, 6, 0, 0, 0, 0, 0, 0, 0, 6, 0},
	} {
		s := api.Sealed{Bytes: want, Tag: api.Pair{0xffffffffffffffff, uint64(i) + 1}}
		mustSeal(t, l, some, at(i), head, counted(200, len(want)), s)
		mustOpen(t, l, some, at(i), head, s, counted(200, len(want)))
	}
	for i, row := range []string{"", "a", "b", "ab"} {
		mustSum(t, "a row of its own", l, number(uint64(i)+1), []byte(row))
		mustSum(t, "the same row", l, number(uint64(i)+1), []byte(row))
	}
	mustSum(t, "in two rows", l, number(4), []byte("a"), nil, []byte("b"))
	mustSum(t, "no rows", l, number(1))
	mustSum(t, "the next", l, number(5), []byte("ba"))
}

func TestIdealIsAsANewOracle(t *testing.T) {
	// One and the same row of calls is asked of both.
	l, o := lock.Ideal(), oracle.New()
	check := func(what string) {
		t.Helper()
		mustHave(t, what, l, o.Issued(), o.Twice())
	}
	check("new")
	for i, h := range lengths() {
		for j, d := range lengths() {
			n := at(100*i + j)
			head, data := counted(1, h), counted(101, d)
			want, ok := o.Seal(some, n, head, data)
			if !ok {
				t.Fatalf("the Oracle refuses %d and %d", h, d)
			}
			mustSeal(t, l, some, n, head, data, want)
			mustOpen(t, l, some, n, head, want, data)
			mustSum(t, "head and data", l, o.Sum(head, data), head, data)
			mustSum(t, "data", l, o.Sum(data), data)
		}
	}
	check("no number twice")
	head, data := []byte("head"), []byte("data")
	for range 2 {
		want, _ := o.Seal(other, last, head, data)
		mustSeal(t, l, other, last, head, data, want)
		check("one number once, then twice")
	}
	if !l.Twice() {
		t.Error("one key and one Nonce, and not Twice")
	}
}

func TestIdealRefusesBeyondTheBound(t *testing.T) {
	l := lock.Ideal()
	var want []api.Issue
	for i, x := range beyond() {
		head, data := counted(1, x[0]), counted(9, x[1])
		mustNotSeal(t, l, head, data)
		mustHave(t, "behind one refused", l, want, false)
		mustNotOpen(t, "what was refused", l, some, once, head, book(uint64(i)+1, len(data)))
		next := api.Issue{Key: some, Nonce: at(100 + i), Head: counted(1, 3), Data: counted(2, 9), Out: book(uint64(i)+1, 9)}
		mustSeal(t, l, next.Key, next.Nonce, next.Head, next.Data, next.Out)
		want = append(want, next)
	}
	mustHave(t, "behind all", l, want, false)
	data := make([]byte, api.MaxBytes, 2*api.MaxBytes)
	mustSeal(t, l, some, once, data, data, book(uint64(len(want))+1, api.MaxBytes))
}

func TestIdealOpensNothingThatWasTurned(t *testing.T) {
	for _, d := range []int{0, 1, 20} {
		l := lock.Ideal()
		head, data := counted(1, 9), counted(101, d)
		s := book(1, d)
		mustNotOpen(t, "ahead of the seal", l, some, once, head, s)
		mustSeal(t, l, some, once, head, data, s)
		mustSeal(t, l, some, at(4), head, data, book(2, d))
		turns(some, once, head, s, func(what string, key api.Pair, n api.Nonce, head []byte, s api.Sealed) {
			mustNotOpen(t, what, l, key, n, head, s)
		})
		mustNotOpen(t, "another seal's", l, some, once, head, book(2, d))
		mustOpen(t, l, some, once, head, s, data)
		mustOpen(t, l, some, at(4), head, book(2, d), data)
	}
}

func TestIdealOpensNothingOfGcm(t *testing.T) {
	l := lock.Ideal()
	head, data := []byte("head"), []byte("data")
	s, _ := gcm.Seal(some, once, head, data)
	mustNotOpen(t, "never sealed here", l, some, once, head, s)
	mustSeal(t, l, some, once, head, data, book(1, 4))
	mustNotOpen(t, "sealed here as another", l, some, once, head, s)
	mustNotOpen(t, "an ideal seal by a real Lock", lock.Real(), some, once, head, book(1, 4))
}

func TestIdealDoesNotHangOnData(t *testing.T) {
	a, b := lock.Ideal(), lock.Ideal()
	for i, d := range lengths() {
		x, _ := a.Seal(some, at(i), nil, counted(1, d))
		y, _ := b.Seal(other, at(50-i), []byte("head"), make([]byte, d))
		if !same(x, y) {
			t.Errorf("of %d bytes: %x, %#x and %x, %#x", d, x.Bytes, x.Tag, y.Bytes, y.Tag)
		}
	}
}

func TestIdealTwice(t *testing.T) {
	l := lock.Ideal()
	for _, x := range []struct {
		key   api.Pair
		nonce api.Nonce
		twice bool
	}{
		{some, once, false},
		{other, once, false},
		{some, at(4), false},
		{api.Pair{some[1], some[0]}, once, false},
		{some, api.Nonce{Epoch: once.Slot, Slot: once.Epoch, Version: once.Version}, false},
		{some, once, true},
		{some, at(5), true},
	} {
		l.Seal(x.key, x.nonce, nil, nil)
		if got := l.Twice(); got != x.twice {
			t.Errorf("behind %#x, %v: Twice = %v", x.key, x.nonce, got)
		}
	}
}

func TestIdealSealsAndSumsAreCountedApart(t *testing.T) {
	l := lock.Ideal()
	mustSum(t, "the first", l, number(1), []byte("a"))
	mustSeal(t, l, some, once, nil, counted(1, 9), book(1, 9))
	mustSum(t, "the second", l, number(2), []byte("b"))
	l.Open(some, once, nil, book(1, 9))
	l.Open(some, once, nil, book(2, 9))
	l.Issued()
	l.Twice()
	mustSeal(t, l, some, at(4), nil, counted(1, 9), book(2, 9))
	mustSum(t, "the first again", l, number(1), []byte("a"))
}

// P8.1: each Lock is one of its own

func TestTwoIdealLocksAreApart(t *testing.T) {
	a, b := lock.Ideal(), lock.Ideal()
	if a == b {
		t.Fatal("Ideal answers one Lock twice")
	}
	head, data := []byte("head"), []byte("data")
	mustSeal(t, a, some, once, head, data, book(1, 4))
	mustSeal(t, a, some, once, head, data, book(2, 4))
	mustSum(t, "of one", a, number(1), []byte("row"))
	mustNotOpen(t, "what another sealed", b, some, once, head, book(1, 4))
	mustHave(t, "the other", b, nil, false)
	mustSum(t, "of the other", b, number(1), []byte("another"))
	mustSeal(t, b, some, once, head, []byte("beta"), book(1, 4))
	mustOpen(t, b, some, once, head, book(1, 4), []byte("beta"))
	mustOpen(t, a, some, once, head, book(1, 4), data)
	mustHave(t, "the other, one sealed", b, []api.Issue{{Key: some, Nonce: once, Head: head, Data: []byte("beta"), Out: book(1, 4)}}, false)
	mustHave(t, "one made behind them", lock.Ideal(), nil, false)
}

func TestTwoRealLocksAreApart(t *testing.T) {
	a, b := lock.Real(), lock.Real()
	if a == b {
		t.Fatal("Real answers one Lock twice")
	}
	*a = *lock.Ideal()
	s, _ := gcm.Seal(some, once, nil, []byte("data"))
	mustSeal(t, b, some, once, nil, []byte("data"), s)
	mustSeal(t, lock.Real(), some, once, nil, []byte("data"), s)
}

func TestRealAndIdealAreApart(t *testing.T) {
	chapter5, chapter7 := lock.Real(), lock.Ideal()
	head, data := []byte("head"), []byte("data")
	s, _ := gcm.Seal(some, once, head, data)
	mustSeal(t, chapter5, some, once, head, data, s)
	mustSum(t, "real", chapter5, digest.Sum(data), data)
	mustHave(t, "what the real one sealed", chapter7, nil, false)
	mustSeal(t, chapter7, some, once, head, data, book(1, 4))
	mustSeal(t, chapter7, some, once, head, data, book(2, 4))
	mustSum(t, "ideal", chapter7, number(1), data)
	mustSum(t, "real again", chapter5, digest.Sum(data), data)
	mustHave(t, "what the ideal one sealed", chapter5, nil, false)
}

func TestMethodsAsValues(t *testing.T) {
	// A call taken off its Lock is of that Lock.
	l := lock.Ideal()
	seal, open, issued := l.Seal, l.Open, l.Issued
	s, ok := seal(some, once, nil, []byte("data"))
	b, is := open(some, once, nil, s)
	if !ok || !is || string(b) != "data" || len(issued()) != 1 || len(l.Issued()) != 1 {
		t.Errorf("%x, %v, %v", b, ok, is)
	}
}

// W5, W6, W7: what is handed in, and what is answered

func TestNilAndEmptyAreTheSame(t *testing.T) {
	for name, made := range kinds() {
		a, b := made(), made()
		x, ok := a.Seal(some, once, nil, nil)
		y, is := b.Seal(some, once, []byte{}, []byte{})
		if !ok || !is || !same(x, y) {
			t.Errorf("%s: %x, %#x, %v and %x, %#x, %v", name, x.Bytes, x.Tag, ok, y.Bytes, y.Tag, is)
		}
		mustOpen(t, a, some, once, []byte{}, api.Sealed{Bytes: []byte{}, Tag: x.Tag}, nil)
		mustOpen(t, b, some, once, nil, api.Sealed{Tag: x.Tag}, nil)
		want := a.Sum()
		for _, rows := range [][][]byte{{}, {nil}, {{}}, {nil, {}, nil}} {
			mustSum(t, name, a, want, rows...)
		}
	}
}

func TestWhatIsHandedInIsAsItWas(t *testing.T) {
	for name, made := range kinds() {
		for _, h := range lengths() {
			for _, d := range []int{0, 1, 16, 17, api.MaxBytes, api.MaxBytes + 1} {
				l := made()
				head, data := roomy(counted(1, h)), roomy(counted(101, d))
				wantHead, wantData := slices.Clone(whole(head)), slices.Clone(whole(data))
				s, _ := l.Seal(some, once, head, data)
				s.Bytes = roomy(s.Bytes)
				wantBytes := slices.Clone(whole(s.Bytes))
				l.Open(some, once, head, s)
				l.Open(other, once, head, s)
				l.Sum(head, data, head)
				l.Issued()
				if !bytes.Equal(whole(head), wantHead) || !bytes.Equal(whole(data), wantData) || !bytes.Equal(whole(s.Bytes), wantBytes) {
					t.Errorf("%s, a head of %d and data of %d: a row, or the room behind it, is changed", name, h, d)
				}
			}
		}
	}
}

func TestTheListOfRowsIsAsItWas(t *testing.T) {
	for name, made := range kinds() {
		a, b, behind := counted(1, 20), counted(50, 9), counted(90, 3)
		all := [][]byte{a, nil, b, behind}
		made().Sum(all[:3:4]...)
		for i, want := range [][]byte{a, nil, b, behind} {
			if len(all[i]) != len(want) || len(want) > 0 && &all[i][0] != &want[0] {
				t.Errorf("%s: row %d of the list is another", name, i)
			}
		}
	}
}

func TestWhatIsHandedInIsNotKept(t *testing.T) {
	for name, made := range kinds() {
		l := made()
		head, data := roomy([]byte("head")), roomy([]byte("eleven byte"))
		rows := [][]byte{head, data}
		s, _ := l.Seal(some, once, head, data)
		sum := l.Sum(rows...)
		issued := l.Issued()
		smear(head)
		smear(data)
		rows[0] = nil
		mustOpen(t, l, some, once, []byte("head"), s, []byte("eleven byte"))
		mustNotOpen(t, name+", the head as it is now", l, some, once, head, s)
		mustSum(t, name+", the bytes as they were", l, sum, []byte("headeleven byte"))
		mustHave(t, name, l, issued, false)
		for _, x := range issued {
			if string(x.Head) != "head" || string(x.Data) != "eleven byte" {
				t.Errorf("%s: what was Issued is now %q, %q", name, x.Head, x.Data)
			}
		}
	}
}

func TestWhatSealAnswersIsNewMemory(t *testing.T) {
	for name, made := range kinds() {
		for _, d := range lengths() {
			l := made()
			head, data := roomy(counted(1, 9)), roomy(counted(101, d))
			wantHead, wantData := slices.Clone(whole(head)), slices.Clone(whole(data))
			first, _ := l.Seal(some, once, head, data)
			second, _ := l.Seal(some, at(4), head, data)
			was, then := slices.Clone(first.Bytes), slices.Clone(second.Bytes)
			issued := l.Issued()
			smear(first.Bytes)
			if !bytes.Equal(whole(head), wantHead) || !bytes.Equal(whole(data), wantData) || !bytes.Equal(second.Bytes, then) {
				t.Errorf("%s, of %d bytes: what is sealed shares memory with what was handed in, or with another answer", name, d)
			}
			mustHave(t, name, l, issued, false)
			mustOpen(t, l, some, once, head, api.Sealed{Bytes: was, Tag: first.Tag}, data)
		}
	}
}

func TestWhatOpenAnswersIsNewMemory(t *testing.T) {
	for name, made := range kinds() {
		for _, d := range lengths() {
			l := made()
			head, data := roomy(counted(1, 9)), counted(101, d)
			s, _ := l.Seal(some, once, head, data)
			s.Bytes = roomy(s.Bytes)
			wantHead, wantBytes := slices.Clone(whole(head)), slices.Clone(whole(s.Bytes))
			first, _ := l.Open(some, once, head, s)
			second, _ := l.Open(some, once, head, s)
			issued := l.Issued()
			smear(first)
			if !bytes.Equal(whole(head), wantHead) || !bytes.Equal(whole(s.Bytes), wantBytes) || !bytes.Equal(second, data) {
				t.Errorf("%s, of %d bytes: what is opened shares memory with what was handed in, or with another answer", name, d)
			}
			mustHave(t, name, l, issued, false)
			mustOpen(t, l, some, once, head, s, data)
		}
	}
}

func TestWhatIssuedAnswersIsNewMemory(t *testing.T) {
	l := lock.Ideal()
	var want []api.Issue
	for i, d := range []int{0, 1, 8, 40} {
		x := api.Issue{Key: some, Nonce: at(i), Head: counted(1, d), Data: counted(1, d), Out: book(uint64(i)+1, d)}
		mustSeal(t, l, x.Key, x.Nonce, x.Head, x.Data, x.Out)
		want = append(want, x)
	}
	kept, turned := l.Issued(), l.Issued()
	for _, x := range turned {
		smear(x.Head)
		smear(x.Data)
		smear(x.Out.Bytes)
	}
	clear(turned[:cap(turned)])
	mustHave(t, "one list smeared", l, want, false)
	mustBe(t, "what was answered before", kept, want)
	mustSeal(t, l, other, once, nil, nil, book(5, 0))
	mustBe(t, "what was answered ahead of a seal", kept, want)
	for _, x := range want {
		mustOpen(t, l, x.Key, x.Nonce, x.Head, x.Out, x.Data)
	}
}

func TestOneRowAsHeadAndData(t *testing.T) {
	for name, made := range kinds() {
		l := made()
		row := counted(1, 60)
		s, ok := l.Seal(some, once, row[:30], row[10:50])
		if !ok || !bytes.Equal(row, counted(1, 60)) {
			t.Errorf("%s: a piece's room is written", name)
		}
		mustOpen(t, l, some, once, row[:30], s, row[10:50])
	}
}

// P8.2

// mustBeNothing wants a Lock to which nothing happens.
func mustBeNothing(t *testing.T, l *lock.Lock) {
	t.Helper()
	sealed, _ := gcm.Seal(some, once, nil, []byte("data"))
	for range 2 {
		mustNotSeal(t, l, nil, nil)
		mustNotSeal(t, l, []byte("head"), []byte("data"))
		mustNotSeal(t, l, make([]byte, api.MaxBytes+1), nil)
		for _, s := range []api.Sealed{{}, sealed, book(1, 4)} {
			mustNotOpen(t, "nothing", l, some, once, nil, s)
		}
		for _, rows := range [][][]byte{nil, {nil}, {[]byte("row"), []byte("row")}} {
			mustSum(t, "nothing", l, api.Pair{}, rows...)
		}
		mustHave(t, "nothing", l, nil, false)
	}
}

func TestNilLock(t *testing.T) { mustBeNothing(t, nil) }

func TestLockThatNobodyMade(t *testing.T) { mustBeNothing(t, &lock.Lock{}) }
