package oracle_test

import (
	"bytes"
	"encoding/binary"
	"math"
	"slices"
	"testing"

	"lockbox/api"
	"lockbox/oracle"
)

var (
	some  = api.Pair{0x0f0e0d0c0b0a0908, 0x0706050403020100}
	other = api.Pair{0x123456789abcdef0, 0xfedcba9876543210}
	ones  = api.Pair{math.MaxUint64, math.MaxUint64}
	once  = api.Nonce{Epoch: 1, Slot: 2, Version: 3}
)

// lengths has those around the number's 8 bytes, once and twice, and the bound.
func lengths() []int {
	return []int{0, 1, 7, 8, 9, 15, 16, 17, 24, 100, 257, api.MaxBytes - 1, api.MaxBytes}
}

// counted is the bytes from, from + 1 .., n of them.
func counted(from byte, n int) []byte {
	b := make([]byte, n)
	for i := range b {
		b[i] = from + byte(i)
	}
	return b
}

// roomy is a copy of b with spare room behind its end, marked by 0xee.
func roomy(b []byte) []byte {
	all := append(slices.Clone(b), bytes.Repeat([]byte{0xee}, 24)...)
	return all[:len(b):len(all)]
}

// whole is b with its spare room.
func whole(b []byte) []byte { return b[:cap(b)] }

// smear overwrites b and its spare room.
func smear(b []byte) {
	for i := range whole(b) {
		whole(b)[i] = 0xdd
	}
}

// at is once with another Version.
func at(version int) api.Nonce {
	n := once
	n.Version = uint64(version)
	return n
}

// book is P7.1's Sealed of this number and size, word for word.
func book(number uint64, size int) api.Sealed {
	var b []byte
	for len(b) < size {
		b = binary.BigEndian.AppendUint64(b, number)
	}
	return api.Sealed{Bytes: b[:size], Tag: api.Pair{0xffffffffffffffff, number}}
}

// same says whether both have the same bytes and the same tag.
func same(a, b api.Sealed) bool { return bytes.Equal(a.Bytes, b.Bytes) && a.Tag == b.Tag }

// mustSeal wants what the seal of this number is.
func mustSeal(t *testing.T, o *oracle.Oracle, number uint64, key api.Pair, n api.Nonce, head, data []byte) api.Sealed {
	t.Helper()
	s, ok := o.Seal(key, n, head, data)
	if !ok || !same(s, book(number, len(data))) {
		t.Fatalf("Seal of %d bytes = %x, %#x, %v, want that of the number %d", len(data), s.Bytes, s.Tag, ok, number)
	}
	return s
}

// mustNotSeal wants nothing, false.
func mustNotSeal(t *testing.T, o *oracle.Oracle, head, data []byte) {
	t.Helper()
	if s, ok := o.Seal(some, once, head, data); ok || len(s.Bytes) != 0 || s.Tag != (api.Pair{}) {
		t.Errorf("Seal of a head of %d and data of %d has %d bytes, %#x, %v, want nothing, false", len(head), len(data), len(s.Bytes), s.Tag, ok)
	}
}

// mustOpen wants just this data.
func mustOpen(t *testing.T, o *oracle.Oracle, key api.Pair, n api.Nonce, head []byte, s api.Sealed, data []byte) {
	t.Helper()
	if b, ok := o.Open(key, n, head, s); !ok || !bytes.Equal(b, data) {
		t.Errorf("Open of a head of %d and %d bytes = %x, %v, want %x, true", len(head), len(s.Bytes), b, ok, data)
	}
}

// mustNotOpen wants nil, false.
func mustNotOpen(t *testing.T, what string, o *oracle.Oracle, key api.Pair, n api.Nonce, head []byte, s api.Sealed) {
	t.Helper()
	if b, ok := o.Open(key, n, head, s); ok || b != nil {
		t.Errorf("%s: Open of a head of %d and %d bytes = %x, %v, want nil, false", what, len(head), len(s.Bytes), b, ok)
	}
}

// mustSum wants this number for these rows.
func mustSum(t *testing.T, what string, o *oracle.Oracle, number uint64, rows ...[]byte) {
	t.Helper()
	if got, want := o.Sum(rows...), (api.Pair{0xeeeeeeeeeeeeeeee, number}); got != want {
		t.Errorf("%s: Sum = %#x, want %#x", what, got, want)
	}
}

// mustHave wants just these Issues.
func mustHave(t *testing.T, what string, o *oracle.Oracle, want []api.Issue) {
	t.Helper()
	mustBe(t, what, o.Issued(), want)
}

// mustBe wants these Issues in a list.
func mustBe(t *testing.T, what string, got, want []api.Issue) {
	t.Helper()
	if len(got) != len(want) {
		t.Fatalf("%s: %d are Issued, want %d", what, len(got), len(want))
	}
	for i, x := range want {
		y := got[i]
		if y.Key != x.Key || y.Nonce != x.Nonce || !bytes.Equal(y.Head, x.Head) || !bytes.Equal(y.Data, x.Data) || !same(y.Out, x.Out) {
			t.Errorf("%s: Issued %d is %v, want %v", what, i, y, x)
		}
	}
}

// P7.1: Seal

func TestExample(t *testing.T) {
	o := oracle.New()
	o.Seal(some, once, nil, nil)
	if s, ok := o.Seal(other, at(9), []byte("head"), []byte("data")); !ok || s.Tag != (api.Pair{0xffffffffffffffff, 2}) {
		t.Errorf("the second Seal has the Tag %#x, %v", s.Tag, ok)
	}
}

func TestSealOfKnownBytes(t *testing.T) {
	o := oracle.New()
	for i, want := range [][]byte{
		{},
		{0},
		{0, 0, 0, 0, 0, 0, 0},
		{0, 0, 0, 0, 0, 0, 0, 4},
		{0, 0, 0, 0, 0, 0, 0, 5, 0},
		{0, 0, 0, 0, 0, 0, 0, 6, 0, 0, 0, 0, 0, 0, 0, 6, 0},
		{0, 0, 0, 0, 0, 0, 0, 7, 0, 0, 0, 0, 0, 0, 0, 7, 0, 0, 0, 0, 0, 0, 0, 7},
	} {
		s, ok := o.Seal(some, at(i), []byte("head"), counted(200, len(want)))
		if !ok || !bytes.Equal(s.Bytes, want) || s.Tag != (api.Pair{0xffffffffffffffff, uint64(i) + 1}) {
			t.Errorf("Seal %d = %v, %#x, %v, want %v", i+1, s.Bytes, s.Tag, ok, want)
		}
	}
}

func TestSealOfEveryLength(t *testing.T) {
	o := oracle.New()
	number := uint64(0)
	for _, h := range lengths() {
		for _, d := range lengths() {
			number++
			head, data := counted(1, h), counted(101, d)
			s := mustSeal(t, o, number, some, at(int(number)), head, data)
			mustOpen(t, o, some, at(int(number)), head, s, data)
		}
	}
}

func TestSealOfNumbersOfMoreThanOneByte(t *testing.T) {
	o := oracle.New()
	for number := uint64(1); number <= 70000; number++ {
		mustSeal(t, o, number, some, at(int(number)), nil, []byte("17 bytes of data."))
	}
	mustOpen(t, o, some, at(256), nil, book(256, 17), []byte("17 bytes of data."))
	mustNotOpen(t, "one beyond the last", o, some, at(70001), nil, book(70001, 17))
	if o.Twice() {
		t.Error("none of 70000 is used twice")
	}
}

func TestSealBeyondTheBoundIsNothing(t *testing.T) {
	o := oracle.New()
	number := uint64(0)
	for _, x := range [][2]int{
		{api.MaxBytes + 1, 0}, {0, api.MaxBytes + 1},
		{api.MaxBytes + 1, api.MaxBytes}, {api.MaxBytes, api.MaxBytes + 1},
		{api.MaxBytes + 1, api.MaxBytes + 1}, {1 << 20, 1}, {1, 1 << 20},
	} {
		head, data := counted(1, x[0]), counted(9, x[1])
		before := o.Issued()
		mustNotSeal(t, o, head, data)
		mustHave(t, "behind one refused", o, before)
		mustNotOpen(t, "what was refused", o, some, once, head, book(number+1, len(data)))
		number++
		mustSeal(t, o, number, some, at(100+int(number)), counted(1, 3), counted(2, 9))
	}
	if o.Twice() {
		t.Error("what is refused uses its Nonce")
	}
	// Spare room beyond the bound is none of it.
	data := make([]byte, api.MaxBytes, 2*api.MaxBytes)
	mustSeal(t, o, number+1, some, once, data, data)
}

func TestSealOfOneThingTwiceHasTwoNumbers(t *testing.T) {
	o := oracle.New()
	head, data := []byte("head"), []byte("the same data")
	first := mustSeal(t, o, 1, some, once, head, data)
	second := mustSeal(t, o, 2, some, once, head, data)
	mustOpen(t, o, some, once, head, first, data)
	mustOpen(t, o, some, once, head, second, data)
}

func TestSealUsesNothingButTheNextNumber(t *testing.T) {
	o := oracle.New()
	mustSeal(t, o, 1, some, once, nil, counted(1, 9))
	o.Open(some, once, nil, book(1, 9))
	o.Open(some, once, nil, book(2, 9))
	o.Issued()
	o.Twice()
	o.Sum([]byte("rows"))
	mustSeal(t, o, 2, some, once, nil, counted(1, 9))
}

// P7.1: Open

func TestOpenOfTwoWithOneUse(t *testing.T) {
	// The Tag alone tells them apart.
	o := oracle.New()
	first := mustSeal(t, o, 1, some, once, nil, []byte("a"))
	second := mustSeal(t, o, 2, some, once, nil, []byte("b"))
	mustOpen(t, o, some, once, nil, first, []byte("a"))
	mustOpen(t, o, some, once, nil, second, []byte("b"))
}

func TestOpenWithAnotherKey(t *testing.T) {
	o := oracle.New()
	head, data := counted(1, 9), counted(101, 20)
	s := mustSeal(t, o, 1, some, once, head, data)
	for i := range 128 {
		key := some
		key[i/64] ^= 1 << (i % 64)
		mustNotOpen(t, "another key", o, key, once, head, s)
	}
	for _, key := range []api.Pair{{}, ones, other, {some[1], some[0]}} {
		mustNotOpen(t, "another key", o, key, once, head, s)
	}
	mustSeal(t, o, 2, other, once, head, data)
	mustNotOpen(t, "the key of another seal", o, other, once, head, s)
	mustOpen(t, o, some, once, head, s, data)
}

func TestOpenWithAnotherNonce(t *testing.T) {
	o := oracle.New()
	head, data := counted(1, 9), counted(101, 20)
	s := mustSeal(t, o, 1, some, once, head, data)
	for i := range 32 {
		n := once
		n.Epoch ^= 1 << i
		mustNotOpen(t, "another Epoch", o, some, n, head, s)
		n = once
		n.Slot ^= 1 << i
		mustNotOpen(t, "another Slot", o, some, n, head, s)
	}
	for i := range 64 {
		n := once
		n.Version ^= 1 << i
		mustNotOpen(t, "another Version", o, some, n, head, s)
	}
	mustSeal(t, o, 2, some, at(4), head, data)
	mustNotOpen(t, "the Nonce of another seal", o, some, at(4), head, s)
	mustOpen(t, o, some, once, head, s, data)
}

func TestOpenWithAnotherHead(t *testing.T) {
	for _, n := range []int{0, 1, 8, 17} {
		o := oracle.New()
		head, data := counted(1, n), counted(101, 20)
		s := mustSeal(t, o, 1, some, once, head, data)
		for i := range 8 * n {
			turned := slices.Clone(head)
			turned[i/8] ^= 1 << (i % 8)
			mustNotOpen(t, "another byte of the head", o, some, once, turned, s)
		}
		for i := range n {
			mustNotOpen(t, "less of the head", o, some, once, head[:i], s)
		}
		mustNotOpen(t, "more behind the head", o, some, once, append(slices.Clone(head), 0), s)
		mustNotOpen(t, "more ahead of the head", o, some, once, slices.Concat([]byte{0}, head), s)
		mustNotOpen(t, "a head beyond the bound", o, some, once, make([]byte, api.MaxBytes+1), s)
		mustSeal(t, o, 2, some, once, []byte("another"), data)
		mustNotOpen(t, "the head of another seal", o, some, once, []byte("another"), s)
		mustOpen(t, o, some, once, roomy(head), s, data)
	}
}

func TestOpenOfAnotherByte(t *testing.T) {
	for _, n := range []int{0, 1, 7, 8, 9, 17, 40} {
		o := oracle.New()
		head, data := counted(1, 9), counted(101, n)
		s := mustSeal(t, o, 1, some, once, head, data)
		for i := range 8 * n {
			turned := slices.Clone(s.Bytes)
			turned[i/8] ^= 1 << (i % 8)
			mustNotOpen(t, "another byte", o, some, once, head, api.Sealed{Bytes: turned, Tag: s.Tag})
		}
		for i := range n {
			mustNotOpen(t, "less of the bytes", o, some, once, head, api.Sealed{Bytes: s.Bytes[:i], Tag: s.Tag})
		}
		mustNotOpen(t, "as if the data were longer", o, some, once, head, book(1, n+1))
		mustNotOpen(t, "as if the data were longer by 8", o, some, once, head, book(1, n+8))
		mustNotOpen(t, "bytes beyond the bound", o, some, once, head, book(1, api.MaxBytes+1))
		if n > 0 {
			mustNotOpen(t, "the data itself", o, some, once, head, api.Sealed{Bytes: data, Tag: s.Tag})
		}
		mustOpen(t, o, some, once, head, api.Sealed{Bytes: roomy(s.Bytes), Tag: s.Tag}, data)
	}
}

func TestOpenOfAnotherTag(t *testing.T) {
	for _, n := range []int{0, 1, 7, 20} {
		o := oracle.New()
		head, data := counted(1, 9), counted(101, n)
		s := mustSeal(t, o, 1, some, once, head, data)
		mustSeal(t, o, 2, some, at(4), head, data)
		for i := range 128 {
			tag := s.Tag
			tag[i/64] ^= 1 << (i % 64)
			mustNotOpen(t, "another Tag", o, some, once, head, api.Sealed{Bytes: s.Bytes, Tag: tag})
		}
		for _, tag := range []api.Pair{{}, ones, {1, math.MaxUint64}, {0, 1}, {math.MaxUint64, 0}, {math.MaxUint64, 2}, {math.MaxUint64, 3}, {math.MaxUint64, 1 << 63}, {math.MaxUint64, 1<<32 + 1}, {0xeeeeeeeeeeeeeeee, 1}} {
			mustNotOpen(t, "another Tag", o, some, once, head, api.Sealed{Bytes: s.Bytes, Tag: tag})
		}
		mustOpen(t, o, some, once, head, s, data)
	}
}

func TestOpenOfTheTagOfAnotherSealWithOneUse(t *testing.T) {
	o := oracle.New()
	// Of fewer than 8 bytes those of both are alike: the Tag alone tells, and it tells the data.
	mustSeal(t, o, 1, some, once, nil, []byte("one"))
	mustSeal(t, o, 2, some, once, nil, []byte("two"))
	mustOpen(t, o, some, once, nil, api.Sealed{Bytes: make([]byte, 3), Tag: api.Pair{math.MaxUint64, 1}}, []byte("one"))
	mustOpen(t, o, some, once, nil, api.Sealed{Bytes: make([]byte, 3), Tag: api.Pair{math.MaxUint64, 2}}, []byte("two"))
	// Of 8 bytes they are not: the bytes of one do not go with the other's Tag.
	mustSeal(t, o, 3, some, once, nil, []byte("8 bytes."))
	mustSeal(t, o, 4, some, once, nil, []byte("8 others"))
	mustNotOpen(t, "bytes of another", o, some, once, nil, api.Sealed{Bytes: book(3, 8).Bytes, Tag: book(4, 8).Tag})
}

func TestOpenOfNothingHanded(t *testing.T) {
	o := oracle.New()
	s := mustSeal(t, o, 1, api.Pair{}, api.Nonce{}, nil, nil)
	for _, none := range [][]byte{nil, {}, roomy(nil)} {
		mustOpen(t, o, api.Pair{}, api.Nonce{}, none, api.Sealed{Bytes: none, Tag: s.Tag}, nil)
	}
	mustNotOpen(t, "a zero value", o, api.Pair{}, api.Nonce{}, nil, api.Sealed{})
}

// P7.1: Issued and Twice

func TestIssuedIsAllThatWasSealedInOrder(t *testing.T) {
	o := oracle.New()
	var want []api.Issue
	mustHave(t, "a new one", o, want)
	for i, d := range lengths() {
		x := api.Issue{Key: api.Pair{uint64(i), 7}, Nonce: at(50 - i), Head: counted(byte(i), i), Data: counted(byte(d), d), Out: book(uint64(i)+1, d)}
		mustSeal(t, o, uint64(i)+1, x.Key, x.Nonce, x.Head, x.Data)
		want = append(want, x)
		mustHave(t, "so far", o, want)
		o.Open(x.Key, x.Nonce, x.Head, x.Out)
		o.Sum(x.Data)
		o.Seal(x.Key, x.Nonce, make([]byte, api.MaxBytes+1), nil)
	}
	mustHave(t, "at last", o, want)
	mustHave(t, "asked again", o, want)
}

func TestIssuedHasOneThingTwice(t *testing.T) {
	o := oracle.New()
	x := api.Issue{Key: some, Nonce: once, Head: []byte("head"), Data: []byte("data"), Out: book(1, 4)}
	y := x
	y.Out = book(2, 4)
	mustSeal(t, o, 1, x.Key, x.Nonce, x.Head, x.Data)
	mustSeal(t, o, 2, x.Key, x.Nonce, x.Head, x.Data)
	mustHave(t, "the same twice", o, []api.Issue{x, y})
}

func TestTwiceOfNoneSuch(t *testing.T) {
	o := oracle.New()
	for i, x := range []struct {
		key api.Pair
		n   api.Nonce
	}{
		{some, once}, {other, once}, {api.Pair{some[1], some[0]}, once},
		{some, api.Nonce{Epoch: 2, Slot: 2, Version: 3}},
		{some, api.Nonce{Epoch: 1, Slot: 3, Version: 3}},
		{some, api.Nonce{Epoch: 1, Slot: 2, Version: 4}},
		{some, api.Nonce{Epoch: 2, Slot: 1, Version: 3}},
		{some, api.Nonce{}}, {api.Pair{}, api.Nonce{}},
	} {
		if o.Twice() {
			t.Fatalf("Twice ahead of seal %d", i+1)
		}
		mustSeal(t, o, uint64(i)+1, x.key, x.n, []byte("the same head"), []byte("the same data"))
	}
	if o.Twice() {
		t.Error("Twice, though each has a key or a Nonce of its own")
	}
}

func TestTwiceOfTwoSuch(t *testing.T) {
	for _, between := range []int{0, 1, 5} {
		for _, ahead := range []int{0, 1, 3} {
			o := oracle.New()
			for i := range ahead {
				o.Seal(other, at(i), nil, nil)
			}
			o.Seal(some, once, []byte("head"), []byte("data"))
			for i := range between {
				o.Seal(other, at(100+i), nil, nil)
			}
			o.Open(some, once, []byte("head"), book(uint64(ahead)+1, 4))
			if o.Twice() {
				t.Errorf("Twice of %d and %d others: too early", ahead, between)
			}
			o.Seal(some, once, nil, []byte("other data"))
			for i := range 3 {
				if !o.Twice() {
					t.Errorf("not Twice of %d and %d others, and %d behind", ahead, between, i)
				}
				o.Seal(other, at(200+i), nil, nil)
			}
		}
	}
}

// P7.2

func TestSumIsTheNextNumberOfOtherBytes(t *testing.T) {
	o := oracle.New()
	for i, b := range [][]byte{{}, {0}, {0, 0}, {1}, []byte("a"), []byte("ab"), []byte("ba"), counted(0, 300), counted(0, 301), {0xff, 0xfe}, {0xff, 0xff}, counted(0, api.MaxBytes), counted(0, 1<<20)} {
		number := uint64(i) + 1
		mustSum(t, "bytes that are new", o, number, b)
		mustSum(t, "bytes that are known", o, number, b)
		mustSum(t, "known bytes with room behind", o, number, roomy(b))
		mustSum(t, "the first ones", o, 1)
	}
}

func TestSumHangsOnEachBit(t *testing.T) {
	o := oracle.New()
	row := counted(1, 40)
	mustSum(t, "the row", o, 1, row)
	for i := range 8 * len(row) {
		turned := slices.Clone(row)
		turned[i/8] ^= 1 << (i % 8)
		mustSum(t, "a bit turned", o, uint64(i)+2, turned)
	}
	mustSum(t, "the row", o, 1, row)
}

func TestSumOfRowsPartedInOtherWays(t *testing.T) {
	o := oracle.New()
	row := counted(7, 20)
	mustSum(t, "one row", o, 1, row)
	for i := range len(row) + 1 {
		mustSum(t, "cut once", o, 1, row[:i], row[i:])
		mustSum(t, "cut once, with rows of no bytes", o, 1, nil, row[:i], []byte{}, row[i:], nil)
		for j := i; j <= len(row); j++ {
			mustSum(t, "cut twice", o, 1, row[:i], row[i:j], row[j:])
		}
	}
	mustSum(t, "byte by byte", o, 1, slices.Collect(slices.Chunk(row, 1))...)
	mustSum(t, "the rows the other way", o, 2, row[10:], row[:10])
	mustSum(t, "a row twice", o, 3, row, row)
}

func TestSumOfNothing(t *testing.T) {
	o := oracle.New()
	mustSum(t, "some bytes", o, 1, []byte("some"))
	mustSum(t, "no row", o, 2)
	var rows [][]byte
	mustSum(t, "a nil list of rows", o, 2, rows...)
	mustSum(t, "an empty list of rows", o, 2, [][]byte{}...)
	mustSum(t, "rows of no bytes", o, 2, nil, []byte{}, roomy(nil))
	mustSum(t, "a byte 0", o, 3, []byte{0})
}

func TestSumIsApartFromSeal(t *testing.T) {
	o := oracle.New()
	mustSum(t, "a first sum", o, 1, []byte("a"))
	mustSum(t, "a second sum", o, 2, []byte("b"))
	mustSeal(t, o, 1, some, once, nil, []byte("a"))
	mustSum(t, "a third sum", o, 3, []byte("c"))
	mustSeal(t, o, 2, some, at(4), nil, []byte("b"))
	mustSeal(t, o, 3, some, at(5), nil, []byte("c"))
	mustSeal(t, o, 4, some, at(6), nil, []byte("d"))
	mustSum(t, "what was sealed", o, 4, []byte("d"))
	mustNotOpen(t, "a sum as a Tag", o, some, once, nil, api.Sealed{Bytes: []byte{0}, Tag: o.Sum([]byte("a"))})
	if n := len(o.Issued()); n != 4 {
		t.Errorf("%d are Issued, want 4: sums are none of them", n)
	}
}

// P7.3

func TestWhatWasNotSealedIsNotOpened(t *testing.T) {
	o := oracle.New()
	for number := range uint64(5) {
		mustNotOpen(t, "of a new one", o, some, once, nil, book(number, 9))
	}
	mustSeal(t, o, 1, some, once, nil, counted(1, 9))
	for _, number := range []uint64{0, 2, 3, math.MaxInt64, math.MaxInt64 + 1, math.MaxUint64} {
		mustNotOpen(t, "of a number that is not used", o, some, once, nil, book(number, 9))
	}
	mustNotOpen(t, "the data as they are", o, some, once, nil, api.Sealed{Bytes: counted(1, 9)})
}

func TestWhatIsSealedDoesNotHangOnTheData(t *testing.T) {
	for _, size := range lengths() {
		first, second := oracle.New(), oracle.New()
		for i, data := range [][2][]byte{
			{make([]byte, size), counted(1, size)},
			{bytes.Repeat([]byte{0xff}, size), make([]byte, size)},
			{counted(3, size), counted(200, size)},
		} {
			a, aok := first.Seal(some, once, []byte("head"), data[0])
			b, bok := second.Seal(other, at(i), nil, data[1])
			if !aok || !bok || !same(a, b) {
				t.Errorf("of %d bytes: %x, %#x and %x, %#x", size, a.Bytes, a.Tag, b.Bytes, b.Tag)
			}
		}
	}
}

func TestTwoOraclesAreApart(t *testing.T) {
	a, b := oracle.New(), oracle.New()
	s := mustSeal(t, a, 1, some, once, nil, []byte("of a"))
	mustNotOpen(t, "what the other sealed", b, some, once, nil, s)
	mustHave(t, "of the other", b, nil)
	mustSum(t, "of a", a, 1, []byte("x"))
	mustSum(t, "of a", a, 2, []byte("y"))
	mustSum(t, "of b", b, 1, []byte("y"))
	mustSeal(t, b, 1, some, once, nil, []byte("of b"))
	mustOpen(t, a, some, once, nil, s, []byte("of a"))
	mustOpen(t, b, some, once, nil, s, []byte("of b"))
	if a.Twice() || b.Twice() {
		t.Error("Twice of one seal in each")
	}
	mustSeal(t, a, 2, some, once, nil, nil)
	if !a.Twice() || b.Twice() {
		t.Error("Twice of one Oracle hangs on the other")
	}
}

func TestWhatIsHandedInIsAsItWas(t *testing.T) {
	o := oracle.New()
	for _, h := range append(lengths(), api.MaxBytes+1) {
		for _, d := range append(lengths(), api.MaxBytes+1) {
			head, data := roomy(counted(1, h)), roomy(counted(101, d))
			wantHead, wantData := slices.Clone(whole(head)), slices.Clone(whole(data))
			s, _ := o.Seal(some, once, head, data)
			hidden := roomy(s.Bytes)
			wantHidden := slices.Clone(whole(hidden))
			o.Open(some, once, head, api.Sealed{Bytes: hidden, Tag: s.Tag})
			o.Open(some, once, data, api.Sealed{Bytes: head, Tag: s.Tag})
			o.Sum(head, data)
			o.Sum(data, nil, head)
			if !bytes.Equal(whole(head), wantHead) || !bytes.Equal(whole(data), wantData) || !bytes.Equal(whole(hidden), wantHidden) {
				t.Errorf("a head of %d and data of %d: a row, or the room behind it, is changed", h, d)
			}
		}
	}
}

func TestTheListOfRowsIsAsItWas(t *testing.T) {
	a, b, behind := counted(1, 20), counted(50, 9), counted(90, 3)
	all := [][]byte{a, nil, b, behind}
	rows := all[:3:4]
	oracle.New().Sum(rows...)
	for i, want := range [][]byte{a, nil, b, behind} {
		if len(all[i]) != len(want) || len(want) > 0 && &all[i][0] != &want[0] {
			t.Errorf("row %d of the list is another", i)
		}
	}
}

func TestWhatIsHandedInIsNotKept(t *testing.T) {
	o := oracle.New()
	head, data := roomy([]byte("head")), roomy([]byte("eleven byte"))
	want := []api.Issue{{Key: some, Nonce: once, Head: []byte("head"), Data: []byte("eleven byte"), Out: book(1, 11)}}
	s := mustSeal(t, o, 1, some, once, head, data)
	mustSum(t, "one row", o, 1, data)
	rows := [][]byte{head, data}
	mustSum(t, "two rows", o, 2, rows...)
	smear(head)
	smear(data)
	rows[0] = nil
	mustOpen(t, o, some, once, []byte("head"), s, []byte("eleven byte"))
	mustNotOpen(t, "the head as it is now", o, some, once, head, s)
	mustHave(t, "turned behind the call", o, want)
	mustSum(t, "one row again", o, 1, []byte("eleven byte"))
	mustSum(t, "two rows again", o, 2, []byte("headeleven byte"))
	mustSum(t, "the row as it is now", o, 3, data)
}

func TestWhatSealAnswersIsNewMemory(t *testing.T) {
	for _, d := range lengths() {
		o := oracle.New()
		head, data := roomy(counted(1, 9)), roomy(counted(101, d))
		wantHead, wantData := slices.Clone(whole(head)), slices.Clone(whole(data))
		want := []api.Issue{
			{Key: some, Nonce: once, Head: counted(1, 9), Data: counted(101, d), Out: book(1, d)},
			{Key: some, Nonce: at(4), Head: counted(1, 9), Data: counted(101, d), Out: book(2, d)},
		}
		first := mustSeal(t, o, 1, some, once, head, data)
		second := mustSeal(t, o, 2, some, at(4), head, data)
		smear(first.Bytes)
		if !bytes.Equal(whole(head), wantHead) || !bytes.Equal(whole(data), wantData) || !same(second, want[1].Out) {
			t.Errorf("of %d bytes: what is sealed shares memory with what was handed in, or with another answer", d)
		}
		mustHave(t, "turned behind the call", o, want)
		mustOpen(t, o, some, once, head, want[0].Out, data)
	}
}

func TestWhatOpenAnswersIsNewMemory(t *testing.T) {
	for _, d := range lengths() {
		o := oracle.New()
		head, data := roomy(counted(1, 9)), counted(101, d)
		s := mustSeal(t, o, 1, some, once, head, data)
		s.Bytes = roomy(s.Bytes)
		wantHead, wantBytes := slices.Clone(whole(head)), slices.Clone(whole(s.Bytes))
		first, _ := o.Open(some, once, head, s)
		second, _ := o.Open(some, once, head, s)
		smear(first)
		if !bytes.Equal(whole(head), wantHead) || !bytes.Equal(whole(s.Bytes), wantBytes) || !bytes.Equal(second, data) {
			t.Errorf("of %d bytes: what is opened shares memory with what was handed in, or with another answer", d)
		}
		mustOpen(t, o, some, once, head, s, data)
		mustHave(t, "turned behind the call", o, []api.Issue{{Key: some, Nonce: once, Head: head, Data: data, Out: book(1, d)}})
	}
}

func TestWhatIssuedAnswersIsNewMemory(t *testing.T) {
	o := oracle.New()
	var want []api.Issue
	for i, d := range []int{0, 1, 8, 9, 40} {
		x := api.Issue{Key: some, Nonce: at(i), Head: counted(1, d), Data: counted(1, d), Out: book(uint64(i)+1, d)}
		mustSeal(t, o, uint64(i)+1, x.Key, x.Nonce, x.Head, x.Data)
		want = append(want, x)
	}
	kept := o.Issued()
	for i := range want {
		for _, part := range []func(x *api.Issue) *[]byte{
			func(x *api.Issue) *[]byte { return &x.Head },
			func(x *api.Issue) *[]byte { return &x.Data },
			func(x *api.Issue) *[]byte { return &x.Out.Bytes },
		} {
			l := o.Issued()
			smear(*part(&l[i]))
			*part(&l[i]) = *part(&want[i])
			mustBe(t, "one part smeared, the others", l, want)
		}
	}
	l := o.Issued()
	clear(l[:cap(l)])
	mustHave(t, "the list cleared", o, want)
	mustBe(t, "what was answered before", kept, want)
	for _, x := range want {
		mustOpen(t, o, x.Key, x.Nonce, x.Head, x.Out, x.Data)
	}
	mustSeal(t, o, uint64(len(want))+1, other, once, nil, nil)
	mustBe(t, "what was answered ahead of a seal", kept, want)
}

func TestOneRowAsHeadAndData(t *testing.T) {
	o := oracle.New()
	row := counted(1, 60)
	s := mustSeal(t, o, 1, some, once, row[:30], row[10:50])
	mustOpen(t, o, some, once, row[:30], s, row[10:50])
	mustHave(t, "two pieces of one row", o, []api.Issue{{Key: some, Nonce: once, Head: counted(1, 30), Data: counted(11, 40), Out: s}})
	if !bytes.Equal(row, counted(1, 60)) {
		t.Error("a piece's room is written")
	}
}

func TestNilOracle(t *testing.T) {
	var o *oracle.Oracle
	mustNotSeal(t, o, nil, nil)
	mustNotSeal(t, o, []byte("head"), []byte("data"))
	mustNotSeal(t, o, make([]byte, api.MaxBytes+1), nil)
	mustNotOpen(t, "nil", o, some, once, nil, api.Sealed{})
	mustNotOpen(t, "nil", o, some, once, nil, book(1, 4))
	for _, rows := range [][][]byte{nil, {nil}, {[]byte("row"), []byte("row")}} {
		if p := o.Sum(rows...); p != (api.Pair{}) {
			t.Errorf("Sum of a nil Oracle = %#x", p)
		}
	}
	if l := o.Issued(); len(l) != 0 {
		t.Errorf("%d are Issued by a nil Oracle", len(l))
	}
	if o.Twice() {
		t.Error("Twice of a nil Oracle")
	}
}

func TestOracleThatNewDidNotMake(t *testing.T) {
	var o oracle.Oracle
	mustNotOpen(t, "a zero value", &o, some, once, nil, book(1, 4))
	mustHave(t, "a zero value", &o, nil)
	if o.Twice() {
		t.Error("Twice of a zero value")
	}
	mustSum(t, "a zero value", &o, 1, []byte("row"))
	s := mustSeal(t, &o, 1, some, once, nil, []byte("data"))
	mustOpen(t, &o, some, once, nil, s, []byte("data"))
}
