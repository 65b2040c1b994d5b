package stream

import (
	"bytes"
	"crypto/aes"
	library "crypto/cipher"
	"encoding/hex"
	"math"
	"math/rand"
	"slices"
	"sync"
	"testing"

	"largesse/api"
	"largesse/cipher"
	"largesse/field"
)

// hexed: the bytes that are written so.
func hexed(t *testing.T, s string) []byte {
	t.Helper()
	b, err := hex.DecodeString(s)
	if err != nil {
		t.Fatal(err)
	}
	return b
}

// some: so many bytes.
func some(r *rand.Rand, n int) []byte {
	b := make([]byte, n)
	for i := range b {
		b[i] = byte(r.Intn(256))
	}
	return b
}

// rising: 0, 1, 2 ..
func rising(n int) []byte {
	b := make([]byte, n)
	for i := range b {
		b[i] = byte(i)
	}
	return b
}

// made: the cipher of a key that is right.
func made(t *testing.T, key []byte) *cipher.Cipher {
	t.Helper()
	c, err := cipher.New(field.New(), key)
	if err != api.OK {
		t.Fatalf("a cipher of %d bytes: %d", len(key), err)
	}
	return c
}

// told: bytes of a stream, asked for rightly.
func told(t *testing.T, c *cipher.Cipher, nonce []byte, at, n int) []byte {
	t.Helper()
	out, err := Bytes(c, nonce, at, n)
	if err != api.OK || len(out) != n {
		t.Fatalf("Bytes of %x, %d from %d on: %d bytes, %d", nonce, n, at, len(out), err)
	}
	return out
}

// added: bytes and a stream, asked for rightly.
func added(t *testing.T, c *cipher.Cipher, nonce, b []byte) []byte {
	t.Helper()
	out, err := Xor(c, nonce, b)
	if err != api.OK || len(out) != len(b) {
		t.Fatalf("Xor of %x and %d bytes: %d bytes, %d", nonce, len(b), len(out), err)
	}
	return out
}

// other: bytes and a stream, by the library, from the block of a counter on.
func other(t *testing.T, key, nonce, b []byte, counter int) []byte {
	t.Helper()
	one, err := aes.NewCipher(key)
	if err != nil {
		t.Fatal(err)
	}
	first := append(slices.Clone(nonce), 0, 0, 0, 0, byte(counter>>24), byte(counter>>16), byte(counter>>8), byte(counter))
	out := make([]byte, len(b))
	library.NewCTR(one, first).XORKeyStream(out, b)
	return out
}

// check: bytes of a stream, against the library's.
func check(t *testing.T, c *cipher.Cipher, key, nonce []byte, at, n int) {
	t.Helper()
	ahead := at % 16
	want := other(t, key, nonce, make([]byte, ahead+n), at/16)[ahead:]
	if got := told(t, c, nonce, at, n); !bytes.Equal(got, want) {
		t.Fatalf("Bytes of %x under %x, %d from %d on, aren't the library's", nonce, key, n, at)
	}
}

// P6.1

// TestKnownBytes: of FIPS 197's cipher with noughts alone, with GCM's first test cases of both keys, and of RFC 3686's first one.
func TestKnownBytes(t *testing.T) {
	for _, c := range []struct {
		key, nonce string
		at         int
		want       string
	}{
		{"00000000000000000000000000000000", "0000000000000000", 0,
			"66e94bd4ef8a2c3b884cfa59ca342b2e" + "58e2fccefa7e3061367f1d57a4e7455a" + "0388dace60b6a392f328c2b971b2fe78"},
		{"0000000000000000000000000000000000000000000000000000000000000000", "0000000000000000", 0,
			"dc95c078a2408989ad48a21492842087" + "530f8afbc74536b9a963b4f1c4cb738b" + "cea7403d4d606b6e074ec5d3baf39d18"},
		{"ae6852f8121067cc4bf7a5765577f39e", "0000003000000000", 16,
			"b7603328dbc2931b410e16c8067e62df"},
	} {
		want := hexed(t, c.want)
		got := told(t, made(t, hexed(t, c.key)), hexed(t, c.nonce), c.at, len(want))
		if !bytes.Equal(got, want) {
			t.Errorf("Bytes of %s under %s from %d on: %x, not %s", c.nonce, c.key, c.at, got, c.want)
		}
	}
}

// TestBlocksOfTheCipher: the stream is the nonce's and the counter's blocks, through the cipher.
func TestBlocksOfTheCipher(t *testing.T) {
	nonce := []byte{9, 8, 7, 6, 5, 4, 3, 2}
	for _, n := range []int{16, 32} {
		c := made(t, rising(n))
		for _, counter := range []int{0, 1, 2, 254, 255, 256, 257, 65535, 65536, 1<<24 - 1, 1 << 24, 1<<26 - 1, 1 << 26} {
			b := append(slices.Clone(nonce), 0, 0, 0, 0, byte(counter>>24), byte(counter>>16), byte(counter>>8), byte(counter))
			want, _ := c.Encrypt(b)
			if got := told(t, c, nonce, 16*counter, 16); !bytes.Equal(got, want) {
				t.Errorf("the block of %d: %x, not %x", counter, got, want)
			}
		}
	}
}

func TestAllSmallParts(t *testing.T) {
	nonce := []byte{255, 0, 1, 128, 127, 64, 3, 200}
	for _, n := range []int{16, 32} {
		c := made(t, rising(n))
		for at := range 50 {
			for long := range 67 {
				check(t, c, rising(n), nonce, at, long)
			}
		}
	}
}

func TestPartsOfEachNonce(t *testing.T) {
	r := rand.New(rand.NewSource(1))
	for range 300 {
		for _, n := range []int{16, 32} {
			key, nonce := some(r, n), some(r, NonceSize)
			check(t, made(t, key), key, nonce, r.Intn(1<<30+1), r.Intn(200))
		}
	}
}

// TestEachBitOfANonce: none is left out.
func TestEachBitOfANonce(t *testing.T) {
	key := rising(32)
	c := made(t, key)
	for _, first := range []byte{0, 255} {
		nonce := bytes.Repeat([]byte{first}, NonceSize)
		for i := range 8 * NonceSize {
			nonce[i/8] ^= 1 << (i % 8)
			check(t, c, key, nonce, 5, 40)
			nonce[i/8] ^= 1 << (i % 8)
		}
	}
}

// TestFarAndLong: at the ends of what may be asked for, and where the counter takes a byte more.
func TestFarAndLong(t *testing.T) {
	key, nonce := rising(16), []byte("sometime")
	c := made(t, key)
	for _, at := range []int{0, 1, 15, 16, 17, 16*256 - 9, 16*65536 - 9, 16*(1<<24) - 9, 1<<30 - 17, 1<<30 - 16, 1<<30 - 1, 1 << 30} {
		for _, n := range []int{0, 1, 2, 15, 16, 17, 31, 32, 33} {
			check(t, c, key, nonce, at, n)
		}
	}
	for _, at := range []int{0, 1, 1<<30 - 1, 1 << 30} {
		for _, n := range []int{1<<20 - 1, 1 << 20} {
			check(t, c, key, nonce, at, n)
		}
	}
}

func TestOutOfBounds(t *testing.T) {
	c, nonce := made(t, rising(16)), rising(NonceSize)
	for _, x := range []struct{ at, n int }{
		{-1, 0}, {-1, 1}, {0, -1}, {16, -1}, {-1, -1}, {-16, 16}, {-1, 17},
		{1<<30 + 1, 0}, {1<<30 + 1, 1}, {0, 1<<20 + 1}, {1 << 30, 1<<20 + 1}, {1<<30 + 1, 1 << 20},
		{math.MinInt, 0}, {0, math.MinInt}, {math.MinInt, math.MinInt}, {math.MaxInt, 0}, {0, math.MaxInt},
		{math.MaxInt, math.MaxInt}, {math.MinInt, math.MaxInt}, {math.MaxInt, math.MinInt}, {math.MaxInt, 1}, {1, math.MaxInt},
	} {
		if out, err := Bytes(c, nonce, x.at, x.n); out != nil || err != api.ErrRange {
			t.Errorf("Bytes, %d from %d on: %d bytes, %d", x.n, x.at, len(out), err)
		}
	}
}

func TestNoncesOfAnotherLength(t *testing.T) {
	c := made(t, rising(32))
	for n := range 100 {
		if n == NonceSize {
			continue
		}
		// With room behind the nonce, that is no part of it; and other errors come later.
		for _, nonce := range [][]byte{make([]byte, n, n+64), nil} {
			for _, x := range []struct{ at, n int }{{0, 0}, {0, 1}, {-1, 0}, {0, -1}, {1<<30 + 1, 0}, {0, 1<<20 + 1}} {
				if out, err := Bytes(c, nonce, x.at, x.n); out != nil || err != api.ErrForm {
					t.Errorf("Bytes of a nonce of %d bytes: %d bytes, %d", len(nonce), len(out), err)
				}
			}
			for _, b := range [][]byte{nil, rising(5)} {
				if out, err := Xor(c, nonce, b); out != nil || err != api.ErrForm {
					t.Errorf("Xor of a nonce of %d bytes: %d bytes, %d", len(nonce), len(out), err)
				}
			}
		}
	}
	if out, err := Xor(c, nil, make([]byte, 1<<20+1)); out != nil || err != api.ErrForm {
		t.Errorf("Xor of no nonce and of too many bytes: %d bytes, %d", len(out), err)
	}
}

// TestNoCipher: whatever else is wrong comes later.
func TestNoCipher(t *testing.T) {
	for what, c := range map[string]*cipher.Cipher{"nil": nil, "one that New didn't make": {}} {
		for _, nonce := range [][]byte{nil, rising(7), rising(NonceSize), rising(9)} {
			for _, x := range []struct{ at, n int }{{0, 0}, {0, 1}, {16, 0}, {-1, 0}, {0, -1}, {1<<30 + 1, 0}, {0, 1<<20 + 1}} {
				if out, err := Bytes(c, nonce, x.at, x.n); out != nil || err != api.ErrArg {
					t.Errorf("Bytes of a cipher that is %s: %d bytes, %d", what, len(out), err)
				}
			}
			for _, b := range [][]byte{nil, rising(5), make([]byte, 1<<20+1)} {
				if out, err := Xor(c, nonce, b); out != nil || err != api.ErrArg {
					t.Errorf("Xor of a cipher that is %s: %d bytes, %d", what, len(out), err)
				}
			}
		}
	}
}

func TestXor(t *testing.T) {
	r := rand.New(rand.NewSource(2))
	for n := range 100 {
		for _, bytesOfKey := range []int{16, 32} {
			key, nonce, b := some(r, bytesOfKey), some(r, NonceSize), some(r, n)
			if got := added(t, made(t, key), nonce, b); !bytes.Equal(got, other(t, key, nonce, b, 0)) {
				t.Fatalf("Xor of %x under %x and %x isn't the library's", nonce, key, b)
			}
		}
	}
	if got := added(t, made(t, rising(16)), rising(NonceSize), nil); len(got) != 0 {
		t.Errorf("Xor of nil: %x", got)
	}
}

// TestXorKnown: RFC 3686's first test case, that begins with the block of the counter 1.
func TestXorKnown(t *testing.T) {
	c := made(t, hexed(t, "ae6852f8121067cc4bf7a5765577f39e"))
	b := append(make([]byte, 16), "Single block msg"...)
	got := added(t, c, hexed(t, "0000003000000000"), b)[16:]
	if want := "e4095d4fb7a7b3792d6175a3261311b8"; hex.EncodeToString(got) != want {
		t.Errorf("Xor: %x, not %s", got, want)
	}
}

func TestXorOfTooMany(t *testing.T) {
	key, nonce := rising(32), rising(NonceSize)
	c, b := made(t, key), some(rand.New(rand.NewSource(3)), 1<<20+2)
	for _, n := range []int{1<<20 - 1, 1 << 20} {
		// With room behind them, that doesn't count.
		if got := added(t, c, nonce, b[:n]); !bytes.Equal(got, other(t, key, nonce, b[:n], 0)) {
			t.Errorf("Xor of %d bytes isn't the library's", n)
		}
	}
	for _, n := range []int{1<<20 + 1, 1<<20 + 2} {
		if out, err := Xor(c, nonce, b[:n]); out != nil || err != api.ErrRange {
			t.Errorf("Xor of %d bytes: %d bytes, %d", n, len(out), err)
		}
	}
}

// P6.2

// TestFromElsewhere: a part is what stands there in the whole.
func TestFromElsewhere(t *testing.T) {
	r := rand.New(rand.NewSource(4))
	c, nonce := made(t, rising(32)), some(r, NonceSize)
	const all = 5000
	whole := told(t, c, nonce, 0, all)
	for range 2000 {
		at := r.Intn(all)
		n := r.Intn(min(all-at, 100) + 1)
		if got := told(t, c, nonce, at, n); !bytes.Equal(got, whole[at:at+n]) {
			t.Fatalf("Bytes, %d from %d on, aren't those of the stream", n, at)
		}
	}
	for step := 1; step <= 33; step++ {
		joined := []byte{}
		for at := 0; at < all; at += step {
			joined = append(joined, told(t, c, nonce, at, min(step, all-at))...)
		}
		if !bytes.Equal(joined, whole) {
			t.Fatalf("parts of %d bytes aren't the stream together", step)
		}
	}
}

func TestXorTwice(t *testing.T) {
	r := rand.New(rand.NewSource(5))
	for _, n := range []int{0, 1, 15, 16, 17, 440, 512, 4096, 1 << 20} {
		for _, bytesOfKey := range []int{16, 32} {
			c, nonce, b := made(t, some(r, bytesOfKey)), some(r, NonceSize), some(r, n)
			once := added(t, c, nonce, b)
			if got := added(t, c, nonce, once); !bytes.Equal(got, b) {
				t.Errorf("Xor twice of %d bytes isn't what it was", n)
			}
			if n > 8 && bytes.Equal(once, b) {
				t.Errorf("Xor once of %d bytes is what it was", n)
			}
		}
	}
}

// TestXorAddsTheStream: by Bytes, bit by bit.
func TestXorAddsTheStream(t *testing.T) {
	r := rand.New(rand.NewSource(6))
	c, nonce, b := made(t, rising(16)), some(r, NonceSize), some(r, 333)
	part, got := told(t, c, nonce, 0, 333), added(t, c, nonce, b)
	for i := range got {
		if got[i] != b[i]^part[i] {
			t.Fatalf("byte %d: %d, not %d and %d", i, got[i], b[i], part[i])
		}
	}
}

func TestNothingIsChanged(t *testing.T) {
	// With room behind them, that is filled too.
	nonce, b := rising(64)[20:28], rising(200)[50:100]
	oldNonce, oldB := slices.Clone(nonce[:cap(nonce)]), slices.Clone(b[:cap(b)])
	c := made(t, rising(32))
	told(t, c, nonce, 3, 100)
	added(t, c, nonce, b)
	if !bytes.Equal(nonce[:cap(nonce)], oldNonce) || !bytes.Equal(b[:cap(b)], oldB) {
		t.Error("what is handed in is changed")
	}
}

// TestNothingIsKept: an answer stays when what was handed in is another.
func TestNothingIsKept(t *testing.T) {
	c, nonce, b := made(t, rising(16)), rising(NonceSize), rising(50)
	part, sum := told(t, c, nonce, 7, 50), added(t, c, nonce, b)
	oldPart, oldSum := slices.Clone(part), slices.Clone(sum)
	clear(nonce)
	clear(b)
	told(t, c, nonce, 7, 50)
	added(t, c, nonce, b)
	if !bytes.Equal(part, oldPart) || !bytes.Equal(sum, oldSum) {
		t.Error("an answer shares something with what was handed in")
	}
	if got := told(t, c, rising(NonceSize), 7, 50); !bytes.Equal(got, oldPart) {
		t.Error("what was handed in is kept")
	}
}

func TestAnswersAreNew(t *testing.T) {
	c, nonce, b := made(t, rising(16)), rising(NonceSize), rising(50)
	for what, call := range map[string]func() ([]byte, api.Errno){
		"Bytes":         func() ([]byte, api.Errno) { return Bytes(c, nonce, 0, 50) },
		"Bytes from 7":  func() ([]byte, api.Errno) { return Bytes(c, nonce, 7, 50) },
		"Bytes, a few":  func() ([]byte, api.Errno) { return Bytes(c, nonce, 7, 3) },
		"Bytes from 16": func() ([]byte, api.Errno) { return Bytes(c, nonce, 16, 16) },
		"Xor":           func() ([]byte, api.Errno) { return Xor(c, nonce, b) },
	} {
		first, _ := call()
		second, _ := call()
		old := slices.Clone(second)
		for i := range first[:cap(first)] {
			first[:cap(first)][i] ^= 255
		}
		third, _ := call()
		if !bytes.Equal(second, old) || !bytes.Equal(third, old) || !bytes.Equal(nonce, rising(NonceSize)) || !bytes.Equal(b, rising(50)) {
			t.Errorf("%s shares its answer with something else", what)
		}
	}
}

// TestPartsHaveABound: behind a part stands no more of the stream.
func TestPartsHaveABound(t *testing.T) {
	c, nonce := made(t, rising(16)), rising(NonceSize)
	for at := range 34 {
		for n := range 34 {
			if out := told(t, c, nonce, at, n); cap(out) != n {
				t.Fatalf("Bytes, %d from %d on, have room for %d", n, at, cap(out))
			}
		}
	}
}

// TestAtOnce: a stream may be asked by many at once.
func TestAtOnce(t *testing.T) {
	c, nonce := made(t, rising(32)), rising(NonceSize)
	want := told(t, c, nonce, 9, 100)
	var all sync.WaitGroup
	for range 8 {
		all.Go(func() {
			for range 100 {
				if got, err := Bytes(c, nonce, 9, 100); err != api.OK || !bytes.Equal(got, want) {
					t.Error("asked at once it tells something else")
					return
				}
			}
		})
	}
	all.Wait()
}

func BenchmarkBytes(b *testing.B) {
	c, _ := cipher.New(field.New(), rising(32))
	nonce := rising(NonceSize)
	b.SetBytes(1 << 20)
	for b.Loop() {
		Bytes(c, nonce, 0, 1<<20)
	}
}
