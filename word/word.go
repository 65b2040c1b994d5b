// Package word: numbers as bytes (chapter 1).
package word

import "math/bits"

// Word is a number of 8, 16, 32 or 64 bits.
type Word interface {
	~uint8 | ~uint16 | ~uint32 | ~uint64
}

// Bits: how many bits a word has.
func Bits[W Word]() int {
	return bits.Len64(uint64(^W(0)))
}

// size: how many bytes a word has.
func size[W Word]() int {
	return Bits[W]() / 8
}

// Put: bytes, and a word behind them.
func Put[W Word](b []byte, x W) []byte {
	n := size[W]()
	out := make([]byte, len(b), len(b)+n)
	copy(out, b)
	// Shifts by whole bytes need a word that is wider than one.
	wide := uint64(x)
	for i := range n {
		out = append(out, byte(wide>>(8*(n-1-i))))
	}
	return out
}

// Get: the word that the first bytes write.
func Get[W Word](b []byte) (W, bool) {
	n := size[W]()
	if len(b) < n {
		return 0, false
	}
	wide := uint64(0)
	for i := range n {
		wide = wide<<8 | uint64(b[i])
	}
	return W(wide), true
}

// Turn: a word, turned by n.
func Turn[W Word](x W, n int) W {
	all := Bits[W]()
	// As a word has a power of two bits, the lowest ones of n tell how far up it turns, below 0 too.
	up := n & (all - 1)
	return x<<up | x>>(all-up)
}

// Count: how many bits are one.
func Count[W Word](x W) int {
	return bits.OnesCount64(uint64(x))
}

// Xor: byte by byte.
func Xor(a, b []byte) []byte {
	out := make([]byte, min(len(a), len(b)))
	for i := range out {
		out[i] = a[i] ^ b[i]
	}
	return out
}

// Zero: are all bytes noughts?
func Zero(b []byte) bool {
	for _, x := range b {
		if x != 0 {
			return false
		}
	}
	return true
}

// packed: how many bytes so many bits take.
func packed(n int) int {
	// Divided ahead of rounding, as n may be the greatest number there is.
	if n%8 > 0 {
		return n/8 + 1
	}
	return n / 8
}

// place: the bit of a byte at which the i-th one stands.
func place(i int) byte {
	return 0x80 >> (i % 8)
}

// Pack: bits as bytes.
func Pack(bits []bool) []byte {
	out := make([]byte, packed(len(bits)))
	for i, one := range bits {
		if one {
			out[i/8] |= place(i)
		}
	}
	return out
}

// Unpack: so many bits of bytes.
func Unpack(b []byte, n int) ([]bool, bool) {
	if n < 0 || packed(n) != len(b) {
		return nil, false
	}
	for i := n; i < 8*len(b); i++ {
		if b[i/8]&place(i) != 0 {
			return nil, false
		}
	}
	out := make([]bool, n)
	for i := range out {
		out[i] = b[i/8]&place(i) != 0
	}
	return out, true
}
