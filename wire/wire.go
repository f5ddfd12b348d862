// Package wire is numbers as bytes: see DOC.md, chapter 1.
package wire

import (
	"lockbox/api"
)

const (
	wordSize = 8 // the most bytes that a uint64 fills
	pairSize = 2 * wordSize
)

// Put is v's lowest n bytes, the highest first; nothing, if n is not 1 to 8.
func Put(v uint64, n int) []byte {
	if n < 1 || n > wordSize {
		return nil
	}
	b := make([]byte, n)
	for i := n - 1; i >= 0; i-- {
		b[i] = byte(v)
		v >>= 8
	}
	return b
}

// Get is the number of 1 to 8 bytes, the highest first; 0, false of others.
func Get(b []byte) (uint64, bool) {
	if len(b) < 1 || len(b) > wordSize {
		return 0, false
	}
	return number(b), true
}

// Pair is just 16 bytes as a Pair; nothing, false of others.
func Pair(b []byte) (api.Pair, bool) {
	if len(b) != pairSize {
		return api.Pair{}, false
	}
	return api.Pair{number(b[:wordSize]), number(b[wordSize:])}, true
}

// Bytes is a Pair as its 16 bytes.
func Bytes(p api.Pair) []byte {
	b := make([]byte, pairSize)
	copy(b[:wordSize], Put(p[0], wordSize))
	copy(b[wordSize:], Put(p[1], wordSize))
	return b
}

// Cut is b in rows of these sizes, one behind the other; nil, false, if a size
// is below 0, or they are not just as many bytes as b has together.
func Cut(b []byte, sizes ...int) ([][]byte, bool) {
	if !fill(sizes, len(b)) {
		return nil, false
	}
	rows := make([][]byte, len(sizes))
	at := 0
	for i, size := range sizes {
		// A row of its own memory, not a piece of b: b is the caller's.
		rows[i] = make([]byte, size)
		copy(rows[i], b[at:at+size])
		at += size
	}
	return rows, true
}

// number reads b, of at most 8 bytes, the highest first.
func number(b []byte) uint64 {
	var v uint64
	for _, x := range b {
		v = v<<8 | uint64(x)
	}
	return v
}

// fill says whether the sizes, none below 0, are just n together. It counts
// down from n, since a sum of the sizes could wrap.
func fill(sizes []int, n int) bool {
	left := n
	for _, size := range sizes {
		if size < 0 || size > left {
			return false
		}
		left -= size
	}
	return left == 0
}
