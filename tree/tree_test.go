package tree_test

import (
	"bytes"
	"math"
	"slices"
	"testing"

	"lockbox/api"
	"lockbox/digest"
	"lockbox/lock"
	"lockbox/tree"
	"lockbox/wire"
)

// ideal is the first half of each Sum by an ideal lock; the other half is its number.
const ideal = 0xeeeeeeeeeeeeeeee

// counts has the three numbers of leaves that there are.
func counts() []int { return []int{4, 8, 16} }

// noCounts has others.
func noCounts() []int {
	l := []int{24, 31, 32, 33, 48, 63, 64, 127, 128, 255, 256, 256 + 4, 256 + 8, 256 + 16, 1<<16 + 4, 1<<16 + 8}
	for n := range 24 {
		if n != 4 && n != 8 && n != 16 {
			l = append(l, n)
		}
	}
	return l
}

// noNodes has numbers of nodes that no tree has.
func noNodes() []int {
	l := []int{48, 63, 64, 65, 66, 127, 128, 256 + 8, 256 + 16, 256 + 32, 1<<16 + 8}
	for n := range 40 {
		if n != 8 && n != 16 && n != 32 {
			l = append(l, n)
		}
	}
	return l
}

// noLeaves has what is none of n leaves: beside them, what is one in its lowest digits
// alone, and the ends of an int.
func noLeaves(n int) []int {
	return []int{
		-1, -2, -n, -n - 1, -2 * n, n, n + 1, 2*n - 1, 2 * n, 2*n + 1, 1 << 8, 1 << 16, 1 << 31, 1<<31 + 1,
		1 << 32, 1<<32 + 1, -1 << 32, -1<<32 + 1, 1 << 62, math.MaxInt - n, math.MaxInt - n + 1, math.MaxInt - 1, math.MaxInt,
		math.MinInt, math.MinInt + 1, math.MinInt + n,
	}
}

// source is a row of numbers that look like chance.
type source uint64

// next is one of n.
func (s *source) next(n int) int {
	*s = *s*6364136223846793005 + 1442695040888963407
	return int(uint64(*s) >> 33 % uint64(n))
}

// some is n bytes of a source.
func (s *source) some(n int) []byte {
	b := make([]byte, n)
	for i := range b {
		b[i] = byte(s.next(256))
	}
	return b
}

// pairs is n Pairs, each another one, none of noughts.
func pairs(n int) []api.Pair {
	row := make([]api.Pair, n)
	for i := range row {
		row[i] = api.Pair{0xa1a2a3a4a5a60000 + uint64(i), 0xb1b2b3b4b5b60000 + uint64(i)}
	}
	return row
}

// plain is n leaves, each another one.
func plain(n int) [][]byte {
	l := make([][]byte, n)
	for i := range l {
		l[i] = []byte{byte(i), 7, 0xff}
	}
	return l
}

// odd is n leaves: an empty one, a nil one, two that are equal, and others that are long,
// or look like what a node is summed of.
func odd(n int) [][]byte {
	l := plain(n)
	l[0] = []byte{}
	l[1] = nil
	l[2] = bytes.Repeat([]byte{1}, 4001)
	l[3] = bytes.Clone(l[2])
	if n > 4 {
		l[4] = slices.Concat([]byte{1}, bytes.Repeat([]byte{0xee}, 32))
		l[5] = bytes.Repeat([]byte{0xee}, 32)
		l[6] = []byte{0}
		l[7] = []byte{0, 0}
	}
	return l
}

// same is n leaves that are all equal.
func same(n int) [][]byte {
	l := make([][]byte, n)
	for i := range l {
		l[i] = []byte("the same")
	}
	return l
}

// chance is n leaves of whatever bytes.
func chance(s *source, n int) [][]byte {
	l := make([][]byte, n)
	for i := range l {
		l[i] = s.some(s.next(70))
	}
	return l
}

// families has these for each number of leaves.
func families() [][][]byte {
	var all [][][]byte
	s := source(5)
	for _, n := range counts() {
		all = append(all, plain(n), odd(n), same(n), make([][]byte, n), chance(&s, n), chance(&s, n))
	}
	return all
}

// long is a number's 8 bytes, the highest first.
func long(v uint64) []byte {
	b := make([]byte, 8)
	for i := range b {
		b[i] = byte(v >> (56 - 8*i))
	}
	return b
}

// underLeaf is all that a leaf's Sum is of, in one row.
func underLeaf(leaf []byte) []byte { return append([]byte{0}, leaf...) }

// underNode is all that the Sum of a node above two is of, in one row.
func underNode(left, right api.Pair) []byte {
	return slices.Concat([]byte{1}, long(left[0]), long(left[1]), long(right[0]), long(right[1]))
}

// bookBuild is P18.1's Pairs by sum, which is asked in the order of the promise.
func bookBuild(sum func(row []byte) api.Pair, leaves [][]byte) []api.Pair {
	n := len(leaves)
	nodes := make([]api.Pair, 2*n)
	for i := 0; i < n; i++ {
		nodes[n+i] = sum(underLeaf(leaves[i]))
	}
	for i := n - 1; i >= 1; i-- {
		nodes[i] = sum(underNode(nodes[2*i], nodes[2*i+1]))
	}
	return nodes
}

// bookTurn is P18.2's Pairs by sum, likewise.
func bookTurn(sum func(row []byte) api.Pair, nodes []api.Pair, i int, leaf []byte) []api.Pair {
	turned := append([]api.Pair{}, nodes...)
	at := len(nodes)/2 + i
	turned[at] = sum(underLeaf(leaf))
	for at > 1 {
		at = at / 2
		turned[at] = sum(underNode(turned[2*at], turned[2*at+1]))
	}
	return turned
}

// realSum sums as a real lock does.
func realSum(row []byte) api.Pair { return digest.Sum(row) }

// counter is an ideal lock's Sums, told anew: rows that were summed have a number each.
type counter map[string]uint64

func (c counter) sum(row []byte) api.Pair {
	if c[string(row)] == 0 {
		c[string(row)] = uint64(len(c) + 1)
	}
	return api.Pair{ideal, c[string(row)]}
}

// must wants an answer to be these Pairs, true.
func must(t *testing.T, what string, want []api.Pair) func(got []api.Pair, ok bool) {
	return func(got []api.Pair, ok bool) {
		t.Helper()
		if !ok || !slices.Equal(got, want) {
			t.Fatalf("%s = %v, %v, want %v", what, got, ok, want)
		}
	}
}

// mustNot wants an answer to be nothing, false.
func mustNot(t *testing.T, what string, n, i int) func(got []api.Pair, ok bool) {
	return func(got []api.Pair, ok bool) {
		t.Helper()
		if ok || got != nil {
			t.Fatalf("%s of %d, %d = %v, %v", what, n, i, got, ok)
		}
	}
}

// mustNext wants the next Sum by an ideal lock to be of this number: so many less one were
// done.
func mustNext(t *testing.T, l *lock.Lock, want uint64) {
	t.Helper()
	if s := l.Sum([]byte("a row that no tree has")); s != (api.Pair{ideal, want}) {
		t.Fatalf("the next Sum is %v, want number %d", s, want)
	}
}

// with is leaves with one turned.
func with(leaves [][]byte, i int, leaf []byte) [][]byte {
	turned := slices.Clone(leaves)
	turned[i] = leaf
	return turned
}

// roomy is b with spare room behind its end, that is marked.
func roomy[T any](b []T, mark T) []T {
	all := append(slices.Clone(b), slices.Repeat([]T{mark}, 24)...)
	return all[:len(b):len(all)]
}

// smear overwrites b and its spare room.
func smear[T any](b []T, by T) {
	b = b[:cap(b)]
	for i := range b {
		b[i] = by
	}
}

// P18.1: Build

func TestBuildByARealLock(t *testing.T) {
	for _, leaves := range families() {
		must(t, "Build", bookBuild(realSum, leaves))(tree.Build(lock.Real(), leaves))
	}
}

func TestBuildByAnIdealLock(t *testing.T) {
	for _, leaves := range families() {
		c := counter{}
		l := lock.Ideal()
		must(t, "Build", bookBuild(c.sum, leaves))(tree.Build(l, leaves))
		mustNext(t, l, uint64(len(c)+1))
	}
}

func TestBuildHasTwiceAsManyAndNoughtsFirst(t *testing.T) {
	for _, n := range counts() {
		for _, l := range []*lock.Lock{lock.Real(), lock.Ideal()} {
			nodes, ok := tree.Build(l, odd(n))
			if !ok || len(nodes) != 2*n || nodes[0] != (api.Pair{}) {
				t.Fatal(n, nodes, ok)
			}
			for i := range n {
				if nodes[n+i] != l.Sum([]byte{0}, odd(n)[i]) {
					t.Error("leaf", i, "of", n)
				}
			}
			for i := 1; i < n; i++ {
				if nodes[i] != l.Sum([]byte{1}, wire.Bytes(nodes[2*i]), wire.Bytes(nodes[2*i+1])) {
					t.Error("node", i, "of", n)
				}
			}
		}
	}
}

func TestBuildDoesItsSumsInOrder(t *testing.T) {
	for _, n := range counts() {
		l := lock.Ideal()
		nodes, _ := tree.Build(l, plain(n))
		for i := range n {
			if nodes[n+i] != (api.Pair{ideal, uint64(1 + i)}) {
				t.Error("leaf", i, "of", n, nodes[n+i])
			}
		}
		for i := 1; i < n; i++ {
			if nodes[i] != (api.Pair{ideal, uint64(2*n - i)}) {
				t.Error("node", i, "of", n, nodes[i])
			}
		}
		mustNext(t, l, uint64(2*n))
	}
}

func TestBuildOfKnownLeaves(t *testing.T) {
	// The Sums' own values were worked out apart from this program.
	want := []api.Pair{
		{0x0000000000000000, 0x0000000000000000},
		{0x0eb4b9adf602c07e, 0x21ae7be8626fc5df},
		{0xe0143e974befdfa8, 0x057302c8fb9a6606},
		{0x2cbed14c2f690a31, 0x9e0833a399cc6177},
		{0x70efe3c1ff03827b, 0xb00723da525b684b},
		{0xc7e65ae31a6b6d56, 0x86ce65d0905a4b9e},
		{0xc7e65ae31a6b6d56, 0x86ce65d0905a4b9e},
		{0x9aab6422553218c2, 0x93bba37eb0d711f6},
	}
	must(t, "Build", want)(tree.Build(lock.Real(), [][]byte{[]byte("a"), {}, nil, []byte("lockbox")}))
}

func TestBuildOfEqualLeavesByAnIdealLock(t *testing.T) {
	// Equal leaves have one Sum, and so have equal nodes above them: one a row of the tree.
	l := lock.Ideal()
	nodes, _ := tree.Build(l, same(8))
	for i, want := range []uint64{0, 4, 3, 3, 2, 2, 2, 2, 1, 1, 1, 1, 1, 1, 1, 1} {
		if nodes[i][1] != want {
			t.Error(i, nodes[i])
		}
	}
	mustNext(t, l, 5)
}

func TestNoLeafIsSummedAsANode(t *testing.T) {
	// A leaf that has just the bytes of which a node is summed, mark and all, is another.
	for _, l := range []*lock.Lock{lock.Real(), lock.Ideal()} {
		nodes, _ := tree.Build(l, plain(4))
		for i := 1; i < 4; i++ {
			under := underNode(nodes[2*i], nodes[2*i+1])
			for _, leaf := range [][]byte{under, under[1:]} {
				turned, _ := tree.Turn(l, nodes, 0, leaf)
				if turned[4] == nodes[i] {
					t.Error(i)
				}
			}
		}
	}
}

func TestBuildOfOthersIsNothing(t *testing.T) {
	for _, n := range noCounts() {
		l := lock.Ideal()
		mustNot(t, "Build", n, 0)(tree.Build(l, make([][]byte, n)))
		mustNext(t, l, 1)
		mustNot(t, "Build", n, 0)(tree.Build(lock.Real(), make([][]byte, n)))
	}
	l := lock.Ideal()
	mustNot(t, "Build", 0, 0)(tree.Build(l, nil))
	for _, n := range counts() {
		// What stands in the spare room is no leaf.
		mustNot(t, "Build", n, 0)(tree.Build(l, plain(n)[:n-1]))
		mustNot(t, "Build", n, 0)(tree.Build(l, roomy(plain(n), []byte("x"))[:n+1]))
	}
	mustNext(t, l, 1)
}

// P18.1: Top

func TestTopIsNumberOne(t *testing.T) {
	for _, n := range counts() {
		if top, ok := tree.Top(pairs(2 * n)); !ok || top != pairs(2)[1] {
			t.Error(n, top, ok)
		}
		if top, ok := tree.Top(make([]api.Pair, 2*n)); !ok || top != (api.Pair{}) {
			t.Error("of noughts", n, top, ok)
		}
		full := slices.Repeat([]api.Pair{{math.MaxUint64, math.MaxUint64}}, 2*n)
		if top, ok := tree.Top(full); !ok || top != full[1] {
			t.Error("of the greatest", n, top, ok)
		}
	}
	for _, leaves := range families() {
		nodes, _ := tree.Build(lock.Real(), leaves)
		if top, ok := tree.Top(nodes); !ok || top != bookBuild(realSum, leaves)[1] {
			t.Error(len(leaves), top, ok)
		}
	}
}

func TestTopOfOthersIsNothing(t *testing.T) {
	if top, ok := tree.Top(nil); ok || top != (api.Pair{}) {
		t.Error("nil", top, ok)
	}
	for _, n := range noNodes() {
		if top, ok := tree.Top(pairs(n)); ok || top != (api.Pair{}) {
			t.Error(n, top, ok)
		}
		if top, ok := tree.Top(roomy(pairs(n), api.Pair{1, 2})); ok || top != (api.Pair{}) {
			t.Error("with spare room", n, top, ok)
		}
	}
}

// P18.2: Turn

func TestTurnOfWhateverPairs(t *testing.T) {
	for _, n := range counts() {
		for _, nodes := range [][]api.Pair{pairs(2 * n), make([]api.Pair, 2*n), bookBuild(realSum, odd(n))} {
			for i := range n {
				for _, leaf := range [][]byte{nil, {}, {0}, []byte("another one"), bytes.Repeat([]byte{9}, 5000)} {
					must(t, "Turn", bookTurn(realSum, nodes, i, leaf))(tree.Turn(lock.Real(), nodes, i, leaf))
				}
			}
		}
	}
}

func TestTurnMakesTheWayAnewAndNothingElse(t *testing.T) {
	for _, n := range counts() {
		for i := range n {
			nodes := pairs(2 * n)
			turned, ok := tree.Turn(lock.Ideal(), nodes, i, []byte("x"))
			if !ok || len(turned) != 2*n {
				t.Fatal(n, i, turned, ok)
			}
			want := uint64(0)
			for at := n + i; at > 0; at /= 2 {
				want++
				if turned[at] != (api.Pair{ideal, want}) {
					t.Error("on the way", n, i, at, turned[at])
				}
				turned[at] = nodes[at]
			}
			if !slices.Equal(turned, nodes) {
				t.Error("beside the way", n, i, turned)
			}
		}
	}
}

func TestTurnDoesJustTheseSums(t *testing.T) {
	for depth, n := range counts() {
		for i := range n {
			c := counter{}
			l := lock.Ideal()
			nodes := pairs(2 * n)
			must(t, "Turn", bookTurn(c.sum, nodes, i, []byte("x")))(tree.Turn(l, nodes, i, []byte("x")))
			mustNext(t, l, uint64(3+depth)+1)
			// Each is of just the bytes of the promise, or it would not be known already.
			for _, row := range slices.Sorted(keysOf(c)) {
				if s := l.Sum([]byte(row)); s != c.sum([]byte(row)) {
					t.Error(n, i, s)
				}
			}
		}
	}
}

// keysOf has the rows that were summed.
func keysOf(c counter) func(yield func(string) bool) {
	return func(yield func(string) bool) {
		for row := range c {
			if !yield(row) {
				return
			}
		}
	}
}

func TestTurnOfNoLeafIsNothing(t *testing.T) {
	for _, n := range counts() {
		for _, i := range noLeaves(n) {
			l := lock.Ideal()
			mustNot(t, "Turn", n, i)(tree.Turn(l, pairs(2*n), i, []byte("x")))
			mustNot(t, "Turn", n, i)(tree.Turn(l, roomy(pairs(2*n), api.Pair{1, 2}), i, []byte("x")))
			mustNext(t, l, 1)
			mustNot(t, "Turn", n, i)(tree.Turn(lock.Real(), pairs(2*n), i, []byte("x")))
		}
	}
}

func TestTurnOfOtherNodesIsNothing(t *testing.T) {
	l := lock.Ideal()
	mustNot(t, "Turn", 0, 0)(tree.Turn(l, nil, 0, []byte("x")))
	for _, n := range noNodes() {
		for _, i := range []int{0, 1, 3, n / 2, n, -1, math.MaxInt, math.MinInt} {
			mustNot(t, "Turn", n, i)(tree.Turn(l, pairs(n), i, []byte("x")))
		}
	}
	mustNext(t, l, 1)
}

// P18.3

func TestTurnOfBuildIsBuildOfTheTurned(t *testing.T) {
	s := source(9)
	for _, leaves := range families() {
		for i := range leaves {
			for _, leaf := range [][]byte{nil, []byte("another one"), leaves[i], s.some(64)} {
				l := lock.Real()
				nodes, _ := tree.Build(l, leaves)
				want, _ := tree.Build(l, with(leaves, i, leaf))
				must(t, "Turn", want)(tree.Turn(l, nodes, i, leaf))
			}
		}
	}
}

func TestManyTurns(t *testing.T) {
	s := source(11)
	for _, n := range counts() {
		l := lock.Real()
		leaves := chance(&s, n)
		nodes, _ := tree.Build(l, leaves)
		for range 40 {
			i := s.next(n)
			leaves = with(leaves, i, s.some(s.next(70)))
			var ok bool
			nodes, ok = tree.Turn(l, nodes, i, leaves[i])
			must(t, "Turn", bookBuild(realSum, leaves))(nodes, ok)
		}
	}
}

func TestManyTurnsByAnIdealLock(t *testing.T) {
	s := source(13)
	for _, n := range counts() {
		c := counter{}
		l := lock.Ideal()
		leaves := chance(&s, n)
		nodes, ok := tree.Build(l, leaves)
		told := bookBuild(c.sum, leaves)
		must(t, "Build", told)(nodes, ok)
		for range 40 {
			i := s.next(n)
			leaf := s.some(s.next(3))
			leaves = with(leaves, i, leaf)
			nodes, ok = tree.Turn(l, nodes, i, leaf)
			told = bookTurn(c.sum, told, i, leaf)
			must(t, "Turn", told)(nodes, ok)
			// What was summed has its Sum: the same lock builds just this, and sums nothing new.
			must(t, "Build", told)(tree.Build(l, leaves))
		}
		mustNext(t, l, uint64(len(c)+1))
	}
}

func TestTurnByAnIdealLockSumsAsManyAsTheWayIsLong(t *testing.T) {
	for depth, n := range counts() {
		for i := range n {
			l := lock.Ideal()
			nodes, _ := tree.Build(l, plain(n))
			turned, _ := tree.Turn(l, nodes, i, []byte("another one"))
			built := uint64(2*n - 1)
			if turned[1] != (api.Pair{ideal, built + uint64(3+depth)}) {
				t.Error(n, i, turned[1])
			}
			mustNext(t, l, built+uint64(3+depth)+1)
			must(t, "Build", turned)(tree.Build(l, with(plain(n), i, []byte("another one"))))
		}
	}
}

func TestTurnByTheLeafThatIsThereChangesNothing(t *testing.T) {
	for _, n := range counts() {
		l := lock.Ideal()
		nodes, _ := tree.Build(l, plain(n))
		for i := range n {
			must(t, "Turn", nodes)(tree.Turn(l, nodes, i, plain(n)[i]))
		}
		mustNext(t, l, uint64(2*n))
	}
}

// What holds everywhere

func TestWhatIsHandedInIsNotChanged(t *testing.T) {
	for _, l := range []*lock.Lock{lock.Real(), lock.Ideal(), nil} {
		for _, n := range counts() {
			leaves, nodes, leaf := manyRoomy(n), roomy(pairs(2*n), api.Pair{1, 2}), roomy([]byte("leaf"), 0xcc)
			tree.Build(l, leaves)
			tree.Turn(l, nodes, n-1, leaf)
			tree.Turn(l, nodes, n, leaf)
			tree.Top(nodes)
			for i, x := range leaves[:cap(leaves)] {
				if want := manyRoomy(n)[:cap(leaves)][i]; !bytes.Equal(x[:cap(x)], want[:cap(want)]) {
					t.Error("leaf", i, "of", n, x[:cap(x)])
				}
			}
			if !slices.Equal(nodes[:cap(nodes)], roomy(pairs(2*n), api.Pair{1, 2})[:cap(nodes)]) {
				t.Error("nodes", n, nodes[:cap(nodes)])
			}
			if !bytes.Equal(leaf[:cap(leaf)], roomy([]byte("leaf"), 0xcc)[:cap(leaf)]) {
				t.Error("leaf", leaf[:cap(leaf)])
			}
		}
	}
}

// manyRoomy is n leaves, each with spare room, and spare room behind them.
func manyRoomy(n int) [][]byte {
	l := plain(n)
	for i := range l {
		l[i] = roomy(l[i], 0xcc)
	}
	return roomy(l, []byte("spare"))
}

func TestWhatIsHandedInIsNotKept(t *testing.T) {
	for _, n := range counts() {
		for _, both := range []func() *lock.Lock{lock.Real, lock.Ideal} {
			l, untouched := both(), both()
			leaves := manyRoomy(n)
			built, _ := tree.Build(l, leaves)
			want, _ := tree.Build(untouched, manyRoomy(n))
			for _, x := range leaves {
				smear(x, 0xdd)
			}
			smear(leaves, []byte("smeared"))
			must(t, "Build, smeared,", want)(built, true)

			nodes, leaf := roomy(built, api.Pair{1, 2}), roomy([]byte("leaf"), 0xcc)
			turned, _ := tree.Turn(l, nodes, 1, leaf)
			want, _ = tree.Turn(untouched, want, 1, []byte("leaf"))
			smear(nodes, api.Pair{3, 4})
			smear(leaf, 0xdd)
			must(t, "Turn, smeared,", want)(turned, true)

			// Nor does the lock keep it: what was summed has its Sum still.
			must(t, "Build", want)(tree.Build(l, with(plain(n), 1, []byte("leaf"))))
		}
	}
}

func TestWhatIsAnsweredIsNewMemory(t *testing.T) {
	for _, n := range counts() {
		l := lock.Real()
		built, _ := tree.Build(l, plain(n))
		again, _ := tree.Build(l, plain(n))
		turned, _ := tree.Turn(l, built, 0, []byte("x"))
		once, _ := tree.Turn(l, built, 0, []byte("x"))
		smear(turned, api.Pair{1, 2})
		must(t, "Build", bookBuild(realSum, plain(n)))(built, true)
		must(t, "Turn", bookTurn(realSum, built, 0, []byte("x")))(once, true)
		smear(built, api.Pair{3, 4})
		must(t, "Build", bookBuild(realSum, plain(n)))(again, true)
		must(t, "Turn", bookTurn(realSum, again, 0, []byte("x")))(once, true)
		smear(once, api.Pair{5, 6})
		must(t, "Build", bookBuild(realSum, plain(n)))(again, true)
	}
}

func TestByNoLockEachSumIsNoughts(t *testing.T) {
	for _, l := range []*lock.Lock{nil, {}} {
		for _, n := range counts() {
			must(t, "Build", make([]api.Pair, 2*n))(tree.Build(l, plain(n)))
			want := pairs(2 * n)
			for at := n + 2; at > 0; at /= 2 {
				want[at] = api.Pair{}
			}
			must(t, "Turn", want)(tree.Turn(l, pairs(2*n), 2, []byte("x")))
			mustNot(t, "Turn", n, n)(tree.Turn(l, pairs(2*n), n, []byte("x")))
			mustNot(t, "Build", n+1, 0)(tree.Build(l, make([][]byte, n+1)))
		}
	}
}
