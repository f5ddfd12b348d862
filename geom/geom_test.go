package geom_test

import (
	"math"
	"testing"

	"lockbox/api"
	"lockbox/geom"
)

// nodeSize is how long a node is, as the chapter says.
const nodeSize = 16

// counts has the three numbers of slots that there are.
func counts() []int { return []int{4, 8, 16} }

// noCounts has others: round the three, what is one in its lowest digits alone, and the
// ends of an int.
func noCounts() []int {
	l := []int{
		-1, -2, -3, -4, -5, -8, -16, 24, 31, 32, 33, 64, 127, 128, 255, 256,
		1<<31 - 1, 1 << 31, 1<<32 - 1, 1 << 32, -1 << 32, math.MaxInt - 1, math.MaxInt, math.MinInt, math.MinInt + 1,
	}
	for n := range 21 {
		if n != 4 && n != 8 && n != 16 {
			l = append(l, n)
		}
	}
	for _, far := range []int{1 << 5, 1 << 8, 1 << 16, 1 << 24, 1 << 31, 1 << 32, 1 << 62, -1 << 5, -1 << 8, -1 << 16, -1 << 32, math.MinInt} {
		l = append(l, far+4, far+8, far+16)
	}
	return l
}

// noPlaces has what is none of the places 0 to n-1: beside them, what is one in its lowest
// digits alone, what an int can't be multiplied by, and the ends of an int.
func noPlaces(n int) []int {
	return []int{
		-1, -2, -n, n, n + 1, 2*n + 1, 1 << 8, 1 << 16, 1 << 31, 1 << 32, 1<<32 + 1, -1 << 32, -1<<32 + 1,
		1 << 58, 1 << 59, 1 << 60, 1<<60 + 1, 1 << 62, math.MaxInt/32 + 1, math.MaxInt - 1, math.MaxInt,
		math.MinInt, math.MinInt + 1, math.MinInt / 32, math.MinInt/32 - 1,
	}
}

// thing is one of all that has a place: what it is, where it is, how long.
type thing struct {
	kind    string
	area, i int
	ask     func() int
	at, end int
}

// all has every place of n slots in the chapter's order, told anew here: each begins where
// the one ahead of it ends.
func all(n int) []thing {
	var l []thing
	g := geom.Geom{Slots: n}
	at := 0
	lay := func(kind string, area, many, size int, ask func(i int) int) {
		for i := range many {
			l = append(l, thing{kind, area, i, func() int { return ask(i) }, at, at + size})
			at += size
		}
	}
	lay("data", 0, n, api.Block, g.Data)
	for area := range 2 {
		lay("leaf", area, n, api.LeafSize, func(i int) int { return g.Leaf(area, i) })
		lay("node", area, 2*n, nodeSize, func(i int) int { return g.Node(area, i) })
	}
	lay("rec", 0, 2, api.RecSize, g.Rec)
	return l
}

// P17.1: 4, 8 and 16, and no other.
func TestIs(t *testing.T) {
	for _, n := range counts() {
		if !geom.Is(n) {
			t.Error(n)
		}
	}
	for _, n := range noCounts() {
		if geom.Is(n) {
			t.Error(n)
		}
	}
	for n := -1 << 12; n < 1<<17; n++ {
		if geom.Is(n) != (n == 4 || n == 8 || n == 16) {
			t.Error(n)
		}
	}
}

// P17.1: each place there is, one behind the other.
func TestPlaces(t *testing.T) {
	for _, n := range counts() {
		for _, p := range all(n) {
			if got := p.ask(); got != p.at {
				t.Error(n, p.kind, p.area, p.i, got, p.at)
			}
		}
	}
}

// P17.1: places worked out by hand.
func TestPlacesKnown(t *testing.T) {
	four, eight, sixteen := geom.Geom{Slots: 4}, geom.Geom{Slots: 8}, geom.Geom{Slots: 16}
	known := []struct{ got, want int }{
		{four.Data(0), 0}, {four.Data(3), 96},
		{four.Leaf(0, 0), 128}, {four.Leaf(0, 3), 224},
		{four.Node(0, 0), 256}, {four.Node(0, 7), 368},
		{four.Leaf(1, 0), 384}, {four.Leaf(1, 3), 480},
		{four.Node(1, 0), 512}, {four.Node(1, 7), 624},
		{four.Rec(0), 640}, {four.Rec(1), 700},
		{eight.Leaf(0, 0), 256}, {eight.Node(0, 0), 512}, {eight.Leaf(1, 0), 768}, {eight.Node(1, 15), 1264}, {eight.Rec(0), 1280}, {eight.Rec(1), 1340},
		{sixteen.Data(15), 480}, {sixteen.Leaf(0, 0), 512}, {sixteen.Node(0, 0), 1024}, {sixteen.Leaf(1, 0), 1536}, {sixteen.Node(1, 31), 2544}, {sixteen.Rec(0), 2560}, {sixteen.Rec(1), 2620},
	}
	for i, k := range known {
		if k.got != k.want {
			t.Error(i, k.got, k.want)
		}
	}
}

// P17.1: a slot that there is not.
func TestNoSlot(t *testing.T) {
	for _, n := range counts() {
		g := geom.Geom{Slots: n}
		for _, slot := range noPlaces(n) {
			if got := g.Data(slot); got != -1 {
				t.Error(n, slot, got)
			}
			for area := range 2 {
				if got := g.Leaf(area, slot); got != -1 {
					t.Error(n, area, slot, got)
				}
			}
		}
	}
}

// P17.1: a node that there is not; there are twice as many as leaves.
func TestNoNode(t *testing.T) {
	for _, n := range counts() {
		g := geom.Geom{Slots: n}
		for area := range 2 {
			for _, i := range noPlaces(2 * n) {
				if got := g.Node(area, i); got != -1 {
					t.Error(n, area, i, got)
				}
			}
		}
	}
}

// P17.1: an area that there is not, of leaves and nodes that there are and of such that
// there are not.
func TestNoArea(t *testing.T) {
	for _, n := range counts() {
		g := geom.Geom{Slots: n}
		for _, area := range append(noPlaces(2), 3, 4, n, 2*n) {
			for i := -1; i <= 2*n; i++ {
				if leaf, node := g.Leaf(area, i), g.Node(area, i); leaf != -1 || node != -1 {
					t.Error(n, area, i, leaf, node)
				}
			}
		}
	}
}

// P17.1: a record that there is not.
func TestNoRec(t *testing.T) {
	for _, n := range counts() {
		for _, i := range append(noPlaces(2), 3, 4, n) {
			if got := (geom.Geom{Slots: n}).Rec(i); got != -1 {
				t.Error(n, i, got)
			}
		}
	}
}

// P17.1: of a number of slots that may not be there is no place, also none that there
// would be, and no byte.
func TestNoGeom(t *testing.T) {
	for _, n := range noCounts() {
		g := geom.Geom{Slots: n}
		if got := g.Size(); got != 0 {
			t.Error(n, got)
		}
		places := append(noPlaces(4), n-1, n, 2*n-1, 2*n)
		for i := range 40 {
			places = append(places, i)
		}
		for _, i := range places {
			if data, rec := g.Data(i), g.Rec(i); data != -1 || rec != -1 {
				t.Error(n, i, data, rec)
			}
			for _, area := range []int{0, 1, -1, 2, math.MaxInt, math.MinInt} {
				if leaf, node := g.Leaf(area, i), g.Node(area, i); leaf != -1 || node != -1 {
					t.Error(n, area, i, leaf, node)
				}
			}
		}
	}
	var none geom.Geom
	if none.Size() != 0 || none.Data(0) != -1 || none.Leaf(0, 0) != -1 || none.Node(0, 0) != -1 || none.Rec(0) != -1 {
		t.Error("places of no Geom")
	}
}

// P17.1: the chapter's example, and what the places come to of the others.
func TestSize(t *testing.T) {
	if got := (geom.Geom{Slots: 4}).Size(); got != 760 {
		t.Error(got)
	}
	for n, want := range map[int]int{8: 1400, 16: 2680} {
		if got := (geom.Geom{Slots: n}).Size(); got != want {
			t.Error(n, got, want)
		}
	}
	for _, n := range counts() {
		want := n*api.Block + 2*(n*api.LeafSize+2*n*nodeSize) + 2*api.RecSize
		if got := (geom.Geom{Slots: n}).Size(); got != want {
			t.Error(n, got, want)
		}
	}
}

// P17.2: each byte from 0 to Size - 1 is of just one place.
func TestNoOverlap(t *testing.T) {
	for _, n := range counts() {
		size := geom.Geom{Slots: n}.Size()
		times := make([]int, size)
		for _, p := range all(n) {
			from := p.ask()
			if from < 0 || from+p.end-p.at > size {
				t.Fatal(n, p.kind, p.area, p.i, from)
			}
			for b := from; b < from+p.end-p.at; b++ {
				times[b]++
			}
		}
		for b, many := range times {
			if many != 1 {
				t.Error(n, b, many)
			}
		}
	}
}

// W2, W7: what was asked before changes nothing: the places asked backwards, twice each,
// and those of the three numbers of slots by turns.
func TestNothingKept(t *testing.T) {
	for _, n := range counts() {
		l := all(n)
		for i := len(l) - 1; i >= 0; i-- {
			if first, second := l[i].ask(), l[i].ask(); first != l[i].at || second != l[i].at {
				t.Error(n, l[i].kind, l[i].area, l[i].i, first, second)
			}
		}
	}
	four, eight, sixteen := all(4), all(8), all(16)
	for i, p := range sixteen {
		for _, q := range []thing{four[i%len(four)], p, eight[i%len(eight)]} {
			geom.Is(i)
			geom.Geom{Slots: i}.Size()
			geom.Geom{Slots: 4}.Leaf(2, 0)
			if got := q.ask(); got != q.at {
				t.Error(q.kind, q.area, q.i, got, q.at)
			}
		}
	}
	g := geom.Geom{Slots: 8}
	g.Slots = 16
	if g.Size() != 2680 || g.Rec(0) != 2560 {
		t.Error("a Geom is its Slots alone", g.Size(), g.Rec(0))
	}
}
