package path_test

import (
	"bytes"
	"math"
	"slices"
	"testing"

	"lockbox/api"
	"lockbox/digest"
	"lockbox/lock"
	"lockbox/path"
	"lockbox/tree"
)

// ideal is the first half of each Sum by an ideal lock; the other half is its number.
const ideal = 0xeeeeeeeeeeeeeeee

// counts has the three numbers of leaves that there are.
func counts() []int { return []int{4, 8, 16} }

// lengths has how long a way is in each.
func lengths() map[int]int { return map[int]int{4: 2, 8: 3, 16: 4} }

// noCounts has others: beside them, what is one in its lowest digits alone, and the ends
// of an int.
func noCounts() []int {
	l := []int{
		-1, -2, -4, -8, -16, 31, 32, 33, 48, 63, 64, 128, 256, 256 + 4, 256 + 8, 256 + 16, 1<<16 + 4, 1<<16 + 8, 1<<32 + 4,
		-1<<32 + 4, -1<<32 + 8, 1 << 62, math.MaxInt - 3, math.MaxInt - 1, math.MaxInt, math.MinInt, math.MinInt + 4, math.MinInt + 16,
	}
	for n := range 26 {
		if n != 4 && n != 8 && n != 16 {
			l = append(l, n)
		}
	}
	return l
}

// noNodes has numbers of nodes that no tree has.
func noNodes() []int {
	l := []int{48, 63, 64, 65, 66, 127, 128, 256 + 8, 256 + 16, 256 + 32, 1<<16 + 8}
	for n := range 40 {
		if n != 8 && n != 16 && n != 32 {
			l = append(l, n)
		}
	}
	return l
}

// noLeaves has what is none of n leaves, likewise.
func noLeaves(n int) []int {
	return []int{
		-1, -2, -n, -n - 1, -2 * n, n, n + 1, 2*n - 1, 2 * n, 2*n + 1, 1 << 8, 1 << 16, 1 << 31, 1<<31 + 1,
		1 << 32, 1<<32 + 1, -1 << 32, -1<<32 + 1, 1 << 62, math.MaxInt - n, math.MaxInt - n + 1, math.MaxInt - 1, math.MaxInt,
		math.MinInt, math.MinInt + 1, math.MinInt + n,
	}
}

// source is a row of numbers that look like chance.
type source uint64

// next is one of n.
func (s *source) next(n int) int {
	*s = *s*6364136223846793005 + 1442695040888963407
	return int(uint64(*s) >> 33 % uint64(n))
}

// some is n bytes of a source.
func (s *source) some(n int) []byte {
	b := make([]byte, n)
	for i := range b {
		b[i] = byte(s.next(256))
	}
	return b
}

// pairs is n Pairs, each another one, none of noughts.
func pairs(n int) []api.Pair {
	row := make([]api.Pair, n)
	for i := range row {
		row[i] = api.Pair{0xa1a2a3a4a5a60000 + uint64(i), 0xb1b2b3b4b5b60000 + uint64(i)}
	}
	return row
}

// plain is n leaves, each another one.
func plain(n int) [][]byte {
	l := make([][]byte, n)
	for i := range l {
		l[i] = []byte{byte(i), 7, 0xff}
	}
	return l
}

// odd is n leaves: an empty one, a nil one, and a long one that stands twice.
func odd(n int) [][]byte {
	l := plain(n)
	l[0] = []byte{}
	l[1] = nil
	l[2] = bytes.Repeat([]byte{1}, 4001)
	l[3] = bytes.Clone(l[2])
	return l
}

// chance is n leaves of whatever bytes, none like another.
func chance(s *source, n int) [][]byte {
	l := make([][]byte, n)
	for i := range l {
		l[i] = append([]byte{byte(i)}, s.some(s.next(70))...)
	}
	return l
}

// families has these for each number of leaves, and n leaves that are all nil.
func families() [][][]byte {
	var all [][][]byte
	s := source(5)
	for _, n := range counts() {
		all = append(all, plain(n), odd(n), make([][]byte, n), chance(&s, n))
	}
	return all
}

// both makes a lock of either kind.
func both() []*lock.Lock { return []*lock.Lock{lock.Real(), lock.Ideal()} }

// long is a number's 8 bytes, the highest first.
func long(v uint64) []byte {
	b := make([]byte, 8)
	for i := range b {
		b[i] = byte(v >> (56 - 8*i))
	}
	return b
}

// underLeaf is all that a leaf's Sum is of, in one row.
func underLeaf(leaf []byte) []byte { return append([]byte{0}, leaf...) }

// underNode is all that the Sum of a node above two is of, in one row.
func underNode(left, right api.Pair) []byte {
	return slices.Concat([]byte{1}, long(left[0]), long(left[1]), long(right[0]), long(right[1]))
}

// bookTop is the top to which a leaf comes by a way, told by i's digits from the lowest up:
// where one is 1 the node is the right one of two.
func bookTop(sum func(row []byte) api.Pair, i int, leaf []byte, way []api.Pair) api.Pair {
	got := sum(underLeaf(leaf))
	for height, other := range way {
		if i>>height%2 == 1 {
			got = sum(underNode(other, got))
		} else {
			got = sum(underNode(got, other))
		}
	}
	return got
}

// bookWay has the neighbours' numbers: in each row of nodes, the first of which is 8, 4 or
// 2 say, a leaf's node is the i-th, then that of i halved, and so on.
func bookWay(n, i int) []int {
	var way []int
	for first := n; first > 1; first /= 2 {
		if i%2 == 0 {
			way = append(way, first+i+1)
		} else {
			way = append(way, first+i-1)
		}
		i /= 2
	}
	return way
}

// at is the nodes of these numbers.
func at(nodes []api.Pair, numbers []int) []api.Pair {
	var l []api.Pair
	for _, k := range numbers {
		l = append(l, nodes[k])
	}
	return l
}

// realSum sums as a real lock does.
func realSum(row []byte) api.Pair { return digest.Sum(row) }

// counter is an ideal lock's Sums, told anew: rows that were summed have a number each.
type counter map[string]uint64

func (c counter) sum(row []byte) api.Pair {
	if c[string(row)] == 0 {
		c[string(row)] = uint64(len(c) + 1)
	}
	return api.Pair{ideal, c[string(row)]}
}

// must wants an answer to be these Pairs, true.
func must(t *testing.T, what string, want []api.Pair) func(got []api.Pair, ok bool) {
	return func(got []api.Pair, ok bool) {
		t.Helper()
		if !ok || !slices.Equal(got, want) {
			t.Fatalf("%s = %v, %v, want %v", what, got, ok, want)
		}
	}
}

// mustNot wants an answer to be nothing, false.
func mustNot(t *testing.T, n, i int) func(got []api.Pair, ok bool) {
	return func(got []api.Pair, ok bool) {
		t.Helper()
		if ok || got != nil {
			t.Fatalf("Of %d Pairs, %d = %v, %v", n, i, got, ok)
		}
	}
}

// mustBe wants a Check's answer.
func mustBe(t *testing.T, want bool, about ...any) func(got bool) {
	return func(got bool) {
		t.Helper()
		if got != want {
			t.Fatal("Check =", got, "of", about)
		}
	}
}

// mustNext wants the next Sum by an ideal lock to be of this number: so many less one were
// done.
func mustNext(t *testing.T, l *lock.Lock, want uint64) {
	t.Helper()
	if s := l.Sum([]byte("a row that no tree has")); s != (api.Pair{ideal, want}) {
		t.Fatalf("the next Sum is %v, want number %d", s, want)
	}
}

// wayOf is Of, that must be there.
func wayOf(t *testing.T, nodes []api.Pair, i int) []api.Pair {
	t.Helper()
	way, ok := path.Of(nodes, i)
	if !ok {
		t.Fatal("no way", len(nodes), i)
	}
	return way
}

// others has Pairs that are not p: each half turned in one digit, noughts, and both halves
// in each other's place.
func others(p api.Pair) []api.Pair {
	l := []api.Pair{}
	for _, digit := range []int{0, 1, 31, 32, 63} {
		l = append(l, api.Pair{p[0] ^ 1<<digit, p[1]}, api.Pair{p[0], p[1] ^ 1<<digit})
	}
	for _, q := range []api.Pair{{}, {p[1], p[0]}, {math.MaxUint64, math.MaxUint64}} {
		if q != p {
			l = append(l, q)
		}
	}
	return l
}

// roomy is b with spare room behind its end, that is marked.
func roomy[T any](b []T, mark T) []T {
	all := append(slices.Clone(b), slices.Repeat([]T{mark}, 24)...)
	return all[:len(b):len(all)]
}

// smear overwrites b and its spare room.
func smear[T any](b []T, by T) {
	b = b[:cap(b)]
	for i := range b {
		b[i] = by
	}
}

// P19.1: Of

func TestEightLeavesThreeNeighbours(t *testing.T) {
	way, ok := path.Of(pairs(16), 5)
	must(t, "Of", []api.Pair{pairs(16)[12], pairs(16)[7], pairs(16)[2]})(way, ok)
}

func TestOfHasTheNeighboursFromTheLeafUp(t *testing.T) {
	for _, n := range counts() {
		for i := range n {
			for _, nodes := range [][]api.Pair{pairs(2 * n), make([]api.Pair, 2*n)} {
				way, ok := path.Of(nodes, i)
				must(t, "Of", at(nodes, bookWay(n, i)))(way, ok)
				if len(way) != lengths()[n] {
					t.Error(n, i, way)
				}
			}
		}
	}
}

func TestOfSmallTreesByHand(t *testing.T) {
	for i, want := range [][]int{{5, 3}, {4, 3}, {7, 2}, {6, 2}} {
		must(t, "Of", at(pairs(8), want))(path.Of(pairs(8), i))
	}
	for i, want := range map[int][]int{0: {17, 9, 5, 3}, 1: {16, 9, 5, 3}, 6: {23, 10, 4, 3}, 11: {26, 12, 7, 2}, 15: {30, 14, 6, 2}} {
		must(t, "Of", at(pairs(32), want))(path.Of(pairs(32), i))
	}
}

func TestOfHasNeitherTheTopNorTheWayItself(t *testing.T) {
	for _, n := range counts() {
		for i := range n {
			way := wayOf(t, pairs(2*n), i)
			for k := n + i; k > 0; k /= 2 {
				if slices.Contains(way, pairs(2 * n)[k]) {
					t.Error(n, i, k)
				}
			}
			if slices.Contains(way, pairs(1)[0]) {
				t.Error("number 0", n, i)
			}
		}
	}
}

func TestOfWhatBuildMade(t *testing.T) {
	for _, leaves := range families() {
		for _, l := range both() {
			nodes, _ := tree.Build(l, leaves)
			for i := range leaves {
				must(t, "Of", at(nodes, bookWay(len(leaves), i)))(path.Of(nodes, i))
			}
		}
	}
}

func TestOfOtherNodesIsNothing(t *testing.T) {
	mustNot(t, 0, 0)(path.Of(nil, 0))
	mustNot(t, 0, -1)(path.Of([]api.Pair{}, -1))
	for _, n := range noNodes() {
		for _, i := range []int{0, 1, 3, n / 2, n, -1, math.MaxInt, math.MinInt} {
			mustNot(t, n, i)(path.Of(pairs(n), i))
			// What stands in the spare room is no node.
			mustNot(t, n, i)(path.Of(roomy(pairs(n), api.Pair{1, 2}), i))
		}
	}
}

func TestOfNoLeafIsNothing(t *testing.T) {
	for _, n := range counts() {
		for _, i := range noLeaves(n) {
			mustNot(t, 2*n, i)(path.Of(pairs(2*n), i))
			mustNot(t, 2*n, i)(path.Of(roomy(pairs(2*n), api.Pair{1, 2}), i))
		}
	}
}

// P19.1: Check

func TestCheckOfWhateverWayByARealLock(t *testing.T) {
	for _, n := range counts() {
		for i := range n {
			for _, leaf := range odd(n) {
				way := pairs(lengths()[n])
				mustBe(t, true, n, i)(path.Check(lock.Real(), n, i, leaf, way, bookTop(realSum, i, leaf, way)))
			}
		}
	}
}

func TestCheckOfWhateverWayByAnIdealLock(t *testing.T) {
	for _, n := range counts() {
		for i := range n {
			for _, leaf := range odd(n) {
				c := counter{}
				way := pairs(lengths()[n])
				mustBe(t, true, n, i)(path.Check(lock.Ideal(), n, i, leaf, way, bookTop(c.sum, i, leaf, way)))
			}
		}
	}
}

func TestCheckOfAKnownTree(t *testing.T) {
	// The Sums' own values were worked out apart from this program.
	top := api.Pair{0x0eb4b9adf602c07e, 0x21ae7be8626fc5df}
	left := api.Pair{0xe0143e974befdfa8, 0x057302c8fb9a6606}
	right := api.Pair{0x2cbed14c2f690a31, 0x9e0833a399cc6177}
	ofA := api.Pair{0x70efe3c1ff03827b, 0xb00723da525b684b}
	ofNothing := api.Pair{0xc7e65ae31a6b6d56, 0x86ce65d0905a4b9e}
	ofLockbox := api.Pair{0x9aab6422553218c2, 0x93bba37eb0d711f6}
	l := lock.Real()
	mustBe(t, true, 0)(path.Check(l, 4, 0, []byte("a"), []api.Pair{ofNothing, right}, top))
	mustBe(t, true, 1)(path.Check(l, 4, 1, nil, []api.Pair{ofA, right}, top))
	mustBe(t, true, 2)(path.Check(l, 4, 2, []byte{}, []api.Pair{ofLockbox, left}, top))
	mustBe(t, true, 3)(path.Check(l, 4, 3, []byte("lockbox"), []api.Pair{ofNothing, left}, top))
	mustBe(t, false, 2)(path.Check(l, 4, 2, []byte("lockbox"), []api.Pair{ofNothing, left}, top))
	mustBe(t, false, 1)(path.Check(l, 4, 1, []byte("a"), []api.Pair{ofNothing, right}, top))
	mustBe(t, false, 3)(path.Check(l, 4, 3, []byte("lockbox"), []api.Pair{ofNothing, right}, top))
}

func TestCheckOfAnotherNumberOfSlots(t *testing.T) {
	for _, n := range counts() {
		for _, l := range both() {
			nodes, _ := tree.Build(l, plain(n))
			way := wayOf(t, nodes, 1)
			for _, slots := range noCounts() {
				mustBe(t, false, n, slots)(path.Check(l, slots, 1, plain(n)[1], way, nodes[1]))
				mustBe(t, false, n, slots)(path.Check(l, slots, 0, nil, nil, l.Sum([]byte{0})))
			}
			for _, slots := range counts() {
				mustBe(t, slots == n, n, slots)(path.Check(l, slots, 1, plain(n)[1], way, nodes[1]))
			}
		}
	}
}

func TestCheckOfNoCountWithAWayOfItsOwnLength(t *testing.T) {
	// Trees of 1, 2, 32 and 64 leaves would have just such ways: there are none.
	for depth, slots := range []int{1, 2, 4, 8, 16, 32, 64} {
		way := pairs(depth)
		for i := range slots {
			c := counter{}
			top := bookTop(c.sum, i, []byte("x"), way)
			mustBe(t, lengths()[slots] > 0, slots, i)(path.Check(lock.Ideal(), slots, i, []byte("x"), way, top))
			top = bookTop(realSum, i, []byte("x"), way)
			mustBe(t, lengths()[slots] > 0, slots, i)(path.Check(lock.Real(), slots, i, []byte("x"), way, top))
		}
	}
}

func TestCheckOfNoLeaf(t *testing.T) {
	for _, n := range counts() {
		for _, l := range both() {
			nodes, _ := tree.Build(l, make([][]byte, n))
			way := wayOf(t, nodes, 0)
			// All leaves are equal, so that each there is would come to the top.
			for i := range n {
				mustBe(t, true, n, i)(path.Check(l, n, i, nil, way, nodes[1]))
			}
			for _, i := range noLeaves(n) {
				mustBe(t, false, n, i)(path.Check(l, n, i, nil, way, nodes[1]))
			}
		}
	}
}

func TestCheckOfAWayOfAnotherLength(t *testing.T) {
	for _, n := range counts() {
		for _, l := range both() {
			nodes, _ := tree.Build(l, plain(n))
			for i, leaf := range plain(n) {
				way := wayOf(t, nodes, i)
				for k := range len(way) {
					mustBe(t, false, n, i, "first", k)(path.Check(l, n, i, leaf, way[:k], nodes[1]))
					mustBe(t, false, n, i, "less", k)(path.Check(l, n, i, leaf, slices.Delete(slices.Clone(way), k, k+1), nodes[1]))
				}
				for k := range len(way) + 1 {
					mustBe(t, false, n, i, "more", k)(path.Check(l, n, i, leaf, slices.Insert(slices.Clone(way), k, nodes[1]), nodes[1]))
				}
				mustBe(t, false, n, i, "nil")(path.Check(l, n, i, leaf, nil, nodes[1]))
				mustBe(t, false, n, i, "none")(path.Check(l, n, i, leaf, []api.Pair{}, nodes[1]))
				mustBe(t, false, n, i, "twice")(path.Check(l, n, i, leaf, slices.Concat(way, way), nodes[1]))
				mustBe(t, false, n, i, "the nodes")(path.Check(l, n, i, leaf, nodes, nodes[1]))
			}
		}
	}
}

func TestCheckOfAWayThatComesToItsTopButIsOfAnotherLength(t *testing.T) {
	for _, n := range counts() {
		for i := range n {
			for length := range 70 {
				way := pairs(length)
				want := length == lengths()[n]
				mustBe(t, want, n, i, length)(path.Check(lock.Real(), n, i, []byte("x"), way, bookTop(realSum, i, []byte("x"), way)))
				c := counter{}
				mustBe(t, want, n, i, length)(path.Check(lock.Ideal(), n, i, []byte("x"), way, bookTop(c.sum, i, []byte("x"), way)))
			}
		}
	}
}

func TestCheckOfAnotherTreesWay(t *testing.T) {
	for _, l := range both() {
		for _, n := range counts() {
			nodes, _ := tree.Build(l, plain(n))
			for _, m := range counts() {
				other, _ := tree.Build(l, plain(m))
				for i := range min(n, m) {
					mustBe(t, n == m, n, m, i)(path.Check(l, n, i, plain(n)[i], wayOf(t, other, i), nodes[1]))
					mustBe(t, n == m, n, m, i)(path.Check(l, n, i, plain(n)[i], wayOf(t, nodes, i), other[1]))
				}
			}
		}
	}
}

func TestCheckOfAnotherNeighbour(t *testing.T) {
	for _, n := range counts() {
		for _, l := range both() {
			nodes, _ := tree.Build(l, plain(n))
			for i, leaf := range plain(n) {
				way := wayOf(t, nodes, i)
				for k := range way {
					for _, other := range others(way[k]) {
						turned := slices.Clone(way)
						turned[k] = other
						mustBe(t, false, n, i, k, other)(path.Check(l, n, i, leaf, turned, nodes[1]))
					}
				}
				mustBe(t, true, n, i)(path.Check(l, n, i, leaf, way, nodes[1]))
			}
		}
	}
}

func TestCheckOfNeighboursInEachOthersPlace(t *testing.T) {
	for _, n := range counts() {
		for _, l := range both() {
			nodes, _ := tree.Build(l, plain(n))
			for i, leaf := range plain(n) {
				way := wayOf(t, nodes, i)
				for k := range way {
					for j := range k {
						turned := slices.Clone(way)
						turned[k], turned[j] = way[j], way[k]
						mustBe(t, false, n, i, j, k)(path.Check(l, n, i, leaf, turned, nodes[1]))
					}
				}
			}
		}
	}
}

func TestCheckOfAnotherTop(t *testing.T) {
	for _, n := range counts() {
		for _, l := range both() {
			nodes, _ := tree.Build(l, plain(n))
			for i, leaf := range plain(n) {
				for _, other := range slices.Concat(others(nodes[1]), nodes[:1], nodes[2:]) {
					mustBe(t, false, n, i, other)(path.Check(l, n, i, leaf, wayOf(t, nodes, i), other))
				}
			}
		}
	}
}

func TestCheckOfAnotherLeafsNumber(t *testing.T) {
	for _, n := range counts() {
		for _, l := range both() {
			nodes, _ := tree.Build(l, plain(n))
			for i := range n {
				for j := range n {
					mustBe(t, i == j, n, i, j)(path.Check(l, n, j, plain(n)[i], wayOf(t, nodes, i), nodes[1]))
					mustBe(t, i == j, n, i, j)(path.Check(l, n, j, plain(n)[j], wayOf(t, nodes, i), nodes[1]))
					mustBe(t, i == j, n, i, j)(path.Check(l, n, i, plain(n)[j], wayOf(t, nodes, i), nodes[1]))
				}
			}
		}
	}
}

func TestCheckSumsFromTheLeafUpAndNothingElse(t *testing.T) {
	for _, n := range counts() {
		for i := range n {
			for _, right := range []bool{true, false} {
				c := counter{}
				l := lock.Ideal()
				way := pairs(lengths()[n])
				top := bookTop(c.sum, i, []byte("x"), way)
				if !right {
					top = api.Pair{}
				}
				mustBe(t, right, n, i)(path.Check(l, n, i, []byte("x"), way, top))
				mustNext(t, l, uint64(lengths()[n])+2)
				// Each row has its number already, the leaf's the first.
				if got := bookTop(func(row []byte) api.Pair { return l.Sum(row) }, i, []byte("x"), way); got != (api.Pair{ideal, uint64(lengths()[n]) + 1}) {
					t.Error(n, i, got)
				}
				if got := l.Sum([]byte{0}, []byte("x")); got != (api.Pair{ideal, 1}) {
					t.Error(n, i, got)
				}
			}
		}
	}
}

func TestCheckOfWhatIsNoWaySumsNothing(t *testing.T) {
	l := lock.Ideal()
	for _, n := range counts() {
		way := pairs(lengths()[n])
		for _, i := range noLeaves(n) {
			mustBe(t, false, n, i)(path.Check(l, n, i, []byte("x"), way, api.Pair{}))
		}
		for _, slots := range noCounts() {
			mustBe(t, false, n, slots)(path.Check(l, slots, 0, []byte("x"), way, api.Pair{}))
		}
		mustBe(t, false, n)(path.Check(l, n, 0, []byte("x"), way[1:], api.Pair{}))
		mustBe(t, false, n)(path.Check(l, n, 0, []byte("x"), append(way, way[0]), api.Pair{}))
		mustBe(t, false, n)(path.Check(l, n, 0, []byte("x"), nil, api.Pair{}))
	}
	mustNext(t, l, 1)
}

// P19.2

func TestCheckOfOfIsTrueOfWhatBuildMade(t *testing.T) {
	for _, leaves := range families() {
		for _, l := range both() {
			nodes, _ := tree.Build(l, leaves)
			top, _ := tree.Top(nodes)
			for i, leaf := range leaves {
				mustBe(t, true, len(leaves), i)(path.Check(l, len(leaves), i, leaf, wayOf(t, nodes, i), top))
			}
		}
	}
}

func TestCheckByAnIdealLockThatBuiltSumsNothingNew(t *testing.T) {
	for _, n := range counts() {
		l := lock.Ideal()
		nodes, _ := tree.Build(l, plain(n))
		for i, leaf := range plain(n) {
			mustBe(t, true, n, i)(path.Check(l, n, i, leaf, wayOf(t, nodes, i), nodes[1]))
		}
		mustNext(t, l, uint64(2*n))
	}
}

func TestCheckOfOfIsTrueOfWhatTurnMade(t *testing.T) {
	s := source(7)
	for _, n := range counts() {
		for _, l := range both() {
			leaves := chance(&s, n)
			nodes, _ := tree.Build(l, leaves)
			for range 20 {
				i := s.next(n)
				was := leaves[i]
				leaves[i] = append([]byte{byte(i)}, s.some(20)...)
				nodes, _ = tree.Turn(l, nodes, i, leaves[i])
				for k, leaf := range leaves {
					mustBe(t, true, n, i, k)(path.Check(l, n, k, leaf, wayOf(t, nodes, k), nodes[1]))
				}
				mustBe(t, false, n, i)(path.Check(l, n, i, was, wayOf(t, nodes, i), nodes[1]))
			}
		}
	}
}

func TestAWayOfAnotherTimeIsFalse(t *testing.T) {
	// A leaf that was turned changes all ways but its own, and the top.
	for _, n := range counts() {
		for _, l := range both() {
			old, _ := tree.Build(l, plain(n))
			now, _ := tree.Turn(l, old, 2, []byte("another one"))
			for i, leaf := range plain(n) {
				mustBe(t, false, n, i)(path.Check(l, n, i, leaf, wayOf(t, old, i), now[1]))
				mustBe(t, i == 2, n, i)(path.Check(l, n, i, leaf, wayOf(t, now, i), old[1]))
			}
			mustBe(t, true, n)(path.Check(l, n, 2, []byte("another one"), wayOf(t, old, 2), now[1]))
		}
	}
}

func TestAnotherLeafByAnIdealLockIsFalse(t *testing.T) {
	for _, n := range counts() {
		l := lock.Ideal()
		nodes, _ := tree.Build(l, odd(n))
		for i, leaf := range odd(n) {
			way := wayOf(t, nodes, i)
			wrong := [][]byte{
				append(bytes.Clone(leaf), 0), append([]byte{0}, leaf...), []byte("another one"), bytes.Repeat([]byte{1}, 4000),
				bytes.Repeat([]byte{1}, 4002), underNode(nodes[2], nodes[3]), underNode(nodes[2], nodes[3])[1:],
			}
			for k := range leaf {
				turned := bytes.Clone(leaf)
				turned[k] ^= 0x80
				wrong = append(wrong, turned, leaf[:k], leaf[k+1:])
			}
			for _, other := range wrong[:min(len(wrong), 300)] {
				mustBe(t, false, n, i, len(other))(path.Check(l, n, i, other, way, nodes[1]))
			}
		}
	}
}

func TestEqualNeighboursMayChangePlaces(t *testing.T) {
	for _, n := range counts() {
		for _, l := range both() {
			nodes, _ := tree.Build(l, odd(n))
			for _, pair := range [][2]int{{2, 3}, {3, 2}, {0, 1}, {1, 0}} {
				mustBe(t, true, n, pair)(path.Check(l, n, pair[1], odd(n)[pair[0]], wayOf(t, nodes, pair[0]), nodes[1]))
			}
			mustBe(t, false, n)(path.Check(l, n, 0, odd(n)[2], wayOf(t, nodes, 2), nodes[1]))
		}
	}
}

func TestNoNodeIsTakenAsALeaf(t *testing.T) {
	// A node's bytes with the way from the node on are as long as another tree's way.
	for _, l := range both() {
		nodes, _ := tree.Build(l, plain(16))
		under := underNode(nodes[16], nodes[17])
		for _, leaf := range [][]byte{under, under[1:]} {
			mustBe(t, false)(path.Check(l, 8, 0, leaf, wayOf(t, nodes, 0)[1:], nodes[1]))
		}
	}
}

func TestManyChecks(t *testing.T) {
	s := source(17)
	truths := 0
	for range 3000 {
		n := counts()[s.next(3)]
		i := s.next(n+2) - 1
		leaf := s.some(s.next(3))
		way := pairs(2 + s.next(3))
		want := i >= 0 && i < n && len(way) == lengths()[n]
		top := bookTop(realSum, max(i, 0), leaf, way)
		switch s.next(4) {
		case 0:
			top[s.next(2)] ^= 1 << s.next(64)
			want = false
		case 1:
			way[s.next(len(way))][s.next(2)] ^= 1 << s.next(64)
			want = false
		case 2:
			leaf = append(leaf, 0)
			want = false
		}
		mustBe(t, want, n, i, leaf, way)(path.Check(lock.Real(), n, i, leaf, way, top))
		if want {
			truths++
		}
	}
	if truths < 100 {
		t.Error("just", truths, "were true")
	}
}

// What holds everywhere

func TestWhatIsHandedInIsNotChanged(t *testing.T) {
	for _, l := range []*lock.Lock{lock.Real(), lock.Ideal(), nil} {
		for _, n := range counts() {
			nodes, leaf := roomy(pairs(2*n), api.Pair{1, 2}), roomy([]byte("leaf"), 0xcc)
			way := roomy(pairs(lengths()[n]), api.Pair{3, 4})
			for _, i := range []int{0, n - 1, n, -1} {
				path.Of(nodes, i)
				path.Check(l, n, i, leaf, way, api.Pair{})
			}
			if !slices.Equal(nodes[:cap(nodes)], roomy(pairs(2*n), api.Pair{1, 2})[:cap(nodes)]) {
				t.Error("nodes", n, nodes[:cap(nodes)])
			}
			if !bytes.Equal(leaf[:cap(leaf)], roomy([]byte("leaf"), 0xcc)[:cap(leaf)]) {
				t.Error("leaf", leaf[:cap(leaf)])
			}
			if !slices.Equal(way[:cap(way)], roomy(pairs(lengths()[n]), api.Pair{3, 4})[:cap(way)]) {
				t.Error("way", way[:cap(way)])
			}
		}
	}
}

func TestWhatIsHandedInIsNotKept(t *testing.T) {
	for _, n := range counts() {
		for _, l := range both() {
			built, _ := tree.Build(l, plain(n))
			for i := range n {
				nodes, leaf := roomy(built, api.Pair{1, 2}), roomy(plain(n)[i], 0xcc)
				way := wayOf(t, nodes, i)
				smear(nodes, api.Pair{3, 4})
				must(t, "Of, smeared,", at(built, bookWay(n, i)))(way, true)

				handed := roomy(way, api.Pair{5, 6})
				mustBe(t, true, n, i)(path.Check(l, n, i, leaf, handed, built[1]))
				smear(leaf, 0xdd)
				smear(handed, api.Pair{7, 8})
				mustBe(t, true, n, i)(path.Check(l, n, i, plain(n)[i], way, built[1]))
				mustBe(t, false, n, i)(path.Check(l, n, i, leaf, way, built[1]))
				mustBe(t, false, n, i)(path.Check(l, n, i, plain(n)[i], handed, built[1]))
			}
		}
	}
}

func TestWhatOfAnswersIsNewMemory(t *testing.T) {
	for _, n := range counts() {
		for i := range n {
			nodes := pairs(2 * n)
			way, again := wayOf(t, nodes, i), wayOf(t, nodes, i)
			beside := wayOf(t, nodes, i^1)
			smear(way, api.Pair{1, 2})
			must(t, "Of", at(pairs(2*n), bookWay(n, i)))(again, true)
			must(t, "Of", at(pairs(2*n), bookWay(n, i^1)))(beside, true)
			if !slices.Equal(nodes, pairs(2*n)) {
				t.Error("nodes", n, i, nodes)
			}
			must(t, "Of", at(pairs(2*n), bookWay(n, i)))(path.Of(nodes, i))
		}
	}
}

func TestByNoLockEachSumIsNoughts(t *testing.T) {
	for _, l := range []*lock.Lock{nil, {}} {
		for _, n := range counts() {
			way := pairs(lengths()[n])
			mustBe(t, true, n)(path.Check(l, n, 1, []byte("x"), way, api.Pair{}))
			mustBe(t, false, n)(path.Check(l, n, 1, []byte("x"), way, api.Pair{0, 1}))
			mustBe(t, false, n)(path.Check(l, n, n, []byte("x"), way, api.Pair{}))
			mustBe(t, false, n)(path.Check(l, n+1, 1, []byte("x"), way, api.Pair{}))
			mustBe(t, false, n)(path.Check(l, n, 1, []byte("x"), way[1:], api.Pair{}))
		}
	}
}
