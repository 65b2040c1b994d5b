package cipher

import (
	"bytes"
	"crypto/aes"
	"encoding/hex"
	"math/rand"
	"slices"
	"sync"
	"testing"

	"largesse/api"
	"largesse/field"
)

// hexed: the bytes that are written so.
func hexed(t *testing.T, s string) []byte {
	t.Helper()
	b, err := hex.DecodeString(s)
	if err != nil {
		t.Fatal(err)
	}
	return b
}

// some: so many bytes.
func some(r *rand.Rand, n int) []byte {
	b := make([]byte, n)
	for i := range b {
		b[i] = byte(r.Intn(256))
	}
	return b
}

// rising: 0, 1, 2 ..
func rising(n int) []byte {
	b := make([]byte, n)
	for i := range b {
		b[i] = byte(i)
	}
	return b
}

// made: the cipher of a key that is right.
func made(t *testing.T, key []byte) *Cipher {
	t.Helper()
	c, err := New(field.New(), key)
	if err != api.OK || c == nil {
		t.Fatalf("New of %d bytes: %v, %d", len(key), c, err)
	}
	return c
}

// encrypted: a block that is right, through the cipher.
func encrypted(t *testing.T, c *Cipher, b []byte) []byte {
	t.Helper()
	out, err := c.Encrypt(b)
	if err != api.OK || len(out) != 16 {
		t.Fatalf("Encrypt of %x: %x, %d", b, out, err)
	}
	return out
}

// decrypted: a block that is right, back.
func decrypted(t *testing.T, c *Cipher, b []byte) []byte {
	t.Helper()
	out, err := c.Decrypt(b)
	if err != api.OK || len(out) != 16 {
		t.Fatalf("Decrypt of %x: %x, %d", b, out, err)
	}
	return out
}

// P5.1

// TestKnownBlocks: of FIPS 197 (appendices B and C), and of NIST's SP 800-38A (appendix F.1).
func TestKnownBlocks(t *testing.T) {
	const (
		short = "2b7e151628aed2a6abf7158809cf4f3c"
		long  = "603deb1015ca71be2b73aef0857d77811f352c073b6108d72d9810a30914dff4"
	)
	for _, c := range []struct{ key, b, want string }{
		{short, "3243f6a8885a308d313198a2e0370734", "3925841d02dc09fbdc118597196a0b32"},
		{"000102030405060708090a0b0c0d0e0f", "00112233445566778899aabbccddeeff", "69c4e0d86a7b0430d8cdb78070b4c55a"},
		{"000102030405060708090a0b0c0d0e0f101112131415161718191a1b1c1d1e1f", "00112233445566778899aabbccddeeff", "8ea2b7ca516745bfeafc49904b496089"},
		{short, "6bc1bee22e409f96e93d7e117393172a", "3ad77bb40d7a3660a89ecaf32466ef97"},
		{short, "ae2d8a571e03ac9c9eb76fac45af8e51", "f5d3d58503b9699de785895a96fdbaaf"},
		{short, "30c81c46a35ce411e5fbc1191a0a52ef", "43b1cd7f598ece23881b00e3ed030688"},
		{short, "f69f2445df4f9b17ad2b417be66c3710", "7b0c785e27e8ad3f8223207104725dd4"},
		{long, "6bc1bee22e409f96e93d7e117393172a", "f3eed1bdb5d2a03c064b5a7e3db181f8"},
		{long, "ae2d8a571e03ac9c9eb76fac45af8e51", "591ccb10d410ed26dc5ba74a31362870"},
		{long, "30c81c46a35ce411e5fbc1191a0a52ef", "b6ed21b99ca6f4f9f153e7b1beafed1d"},
		{long, "f69f2445df4f9b17ad2b417be66c3710", "23304b7a39f9f3ff067d8d8f9e24ecc7"},
		{"00000000000000000000000000000000", "00000000000000000000000000000000", "66e94bd4ef8a2c3b884cfa59ca342b2e"},
	} {
		one := made(t, hexed(t, c.key))
		b, want := hexed(t, c.b), hexed(t, c.want)
		if got := encrypted(t, one, b); !bytes.Equal(got, want) {
			t.Errorf("Encrypt of %s under %s: %x, not %s", c.b, c.key, got, c.want)
		}
		if got := decrypted(t, one, want); !bytes.Equal(got, b) {
			t.Errorf("Decrypt of %s under %s: %x, not %s", c.want, c.key, got, c.b)
		}
	}
}

// check: a cipher, with a block, against the library's.
func check(t *testing.T, key, b []byte) {
	t.Helper()
	other, err := aes.NewCipher(key)
	if err != nil {
		t.Fatal(err)
	}
	one, want := made(t, key), make([]byte, 16)
	other.Encrypt(want, b)
	if got := encrypted(t, one, b); !bytes.Equal(got, want) {
		t.Fatalf("Encrypt of %x under %x: %x, not %x", b, key, got, want)
	}
	other.Decrypt(want, b)
	if got := decrypted(t, one, b); !bytes.Equal(got, want) {
		t.Fatalf("Decrypt of %x under %x: %x, not %x", b, key, got, want)
	}
}

// TestEachBit: of keys and of blocks, one nought or one one alone.
func TestEachBit(t *testing.T) {
	for _, n := range []int{16, 32} {
		for _, first := range []byte{0, 255} {
			key, b := bytes.Repeat([]byte{first}, n), bytes.Repeat([]byte{first}, 16)
			check(t, key, b)
			for i := range 8 * n {
				key[i/8] ^= 1 << (i % 8)
				check(t, key, b)
				key[i/8] ^= 1 << (i % 8)
			}
			for i := range 8 * 16 {
				b[i/8] ^= 1 << (i % 8)
				check(t, key, b)
				b[i/8] ^= 1 << (i % 8)
			}
		}
	}
}

// TestEachByte: each byte goes through the box, at each place of a key and of a block.
func TestEachByte(t *testing.T) {
	for _, n := range []int{16, 32} {
		for x := range 256 {
			check(t, bytes.Repeat([]byte{byte(x)}, n), rising(16))
			check(t, rising(n), bytes.Repeat([]byte{byte(x)}, 16))
		}
	}
}

func TestManyBlocks(t *testing.T) {
	r := rand.New(rand.NewSource(1))
	for range 500 {
		check(t, some(r, 16), some(r, 16))
		check(t, some(r, 32), some(r, 16))
	}
}

// TestOneBehindTheOther: each block is the one ahead of it, through the cipher.
func TestOneBehindTheOther(t *testing.T) {
	for _, n := range []int{16, 32} {
		one := made(t, rising(n))
		other, err := aes.NewCipher(rising(n))
		if err != nil {
			t.Fatal(err)
		}
		b, want := make([]byte, 16), make([]byte, 16)
		for range 2000 {
			b = encrypted(t, one, b)
			other.Encrypt(want, want)
		}
		if !bytes.Equal(b, want) {
			t.Errorf("with a key of %d bytes at last %x, not %x", n, b, want)
		}
		for range 2000 {
			b = decrypted(t, one, b)
		}
		if !bytes.Equal(b, make([]byte, 16)) {
			t.Errorf("with a key of %d bytes at last %x, not noughts", n, b)
		}
	}
}

func TestRounds(t *testing.T) {
	for _, c := range []struct{ bytes, want int }{{16, 10}, {32, 14}} {
		if got := made(t, rising(c.bytes)).Rounds(); got != c.want {
			t.Errorf("Rounds with a key of %d bytes: %d, not %d", c.bytes, got, c.want)
		}
	}
}

func TestKeysOfAnotherLength(t *testing.T) {
	f := field.New()
	for n := range 300 {
		want := api.ErrForm
		if n == 16 || n == 32 {
			want = api.OK
		}
		// With room behind the key, that is no part of it.
		c, err := New(f, make([]byte, n, n+64))
		if err != want || (c == nil) != (err != api.OK) {
			t.Errorf("New of a key of %d bytes: %v, %d, not %d", n, c, err, want)
		}
	}
	if c, err := New(f, nil); c != nil || err != api.ErrForm {
		t.Errorf("New of nil: %v, %d", c, err)
	}
}

func TestNoField(t *testing.T) {
	for _, key := range [][]byte{nil, {}, rising(15), rising(16), rising(24), rising(32), rising(64)} {
		if c, err := New(nil, key); c != nil || err != api.ErrArg {
			t.Errorf("New of no field and a key of %d bytes: %v, %d", len(key), c, err)
		}
	}
}

func TestBlocksOfAnotherLength(t *testing.T) {
	for _, bytesOfKey := range []int{16, 32} {
		c := made(t, rising(bytesOfKey))
		for n := range 100 {
			if n == 16 {
				continue
			}
			b := make([]byte, n, n+64)
			if out, err := c.Encrypt(b); len(out) != 0 || err != api.ErrForm {
				t.Errorf("Encrypt of %d bytes: %v, %d", n, out, err)
			}
			if out, err := c.Decrypt(b); len(out) != 0 || err != api.ErrForm {
				t.Errorf("Decrypt of %d bytes: %v, %d", n, out, err)
			}
		}
		if out, err := c.Encrypt(nil); len(out) != 0 || err != api.ErrForm {
			t.Errorf("Encrypt of nil: %v, %d", out, err)
		}
		if out, err := c.Decrypt(nil); len(out) != 0 || err != api.ErrForm {
			t.Errorf("Decrypt of nil: %v, %d", out, err)
		}
	}
}

func TestNoCipher(t *testing.T) {
	for what, c := range map[string]*Cipher{"a nil cipher": nil, "a cipher that New didn't make": {}} {
		if got := c.Rounds(); got != 0 {
			t.Errorf("Rounds of %s: %d", what, got)
		}
		for _, b := range [][]byte{nil, {}, rising(15), rising(16), rising(17), rising(32)} {
			if out, err := c.Encrypt(b); len(out) != 0 || err != api.ErrArg {
				t.Errorf("Encrypt of %d bytes by %s: %v, %d", len(b), what, out, err)
			}
			if out, err := c.Decrypt(b); len(out) != 0 || err != api.ErrArg {
				t.Errorf("Decrypt of %d bytes by %s: %v, %d", len(b), what, out, err)
			}
		}
	}
}

// P5.2

func TestThereAndBack(t *testing.T) {
	r := rand.New(rand.NewSource(2))
	for _, n := range []int{16, 32} {
		for range 200 {
			c, b := made(t, some(r, n)), some(r, 16)
			if got := decrypted(t, c, encrypted(t, c, b)); !bytes.Equal(got, b) {
				t.Fatalf("Decrypt of Encrypt of %x: %x", b, got)
			}
			if got := encrypted(t, c, decrypted(t, c, b)); !bytes.Equal(got, b) {
				t.Fatalf("Encrypt of Decrypt of %x: %x", b, got)
			}
		}
	}
}

func TestNothingIsChanged(t *testing.T) {
	for _, n := range []int{16, 32} {
		// With room behind them, that is filled too.
		key, b := rising(n + 32)[:n], rising(99)[50:66]
		f := field.New()
		oldKey, oldB, oldField := slices.Clone(key[:n+32]), slices.Clone(b[:cap(b)]), *f
		c, _ := New(f, key)
		encrypted(t, c, b)
		decrypted(t, c, b)
		if !bytes.Equal(key[:n+32], oldKey) || !bytes.Equal(b[:cap(b)], oldB) || *f != oldField {
			t.Errorf("with a key of %d bytes what is handed in is changed", n)
		}
	}
}

// TestNothingIsKept: neither the key nor the field is asked for again, nor a block.
func TestNothingIsKept(t *testing.T) {
	for _, n := range []int{16, 32} {
		f, key, b := field.New(), rising(n), rising(16)
		c, _ := New(f, key)
		there, back := encrypted(t, made(t, rising(n)), b), decrypted(t, made(t, rising(n)), b)
		*f = field.Field{}
		clear(key)
		if got := encrypted(t, c, b); !bytes.Equal(got, there) {
			t.Errorf("with a key of %d bytes something is kept: %x, not %x", n, got, there)
		}
		if got := decrypted(t, c, b); !bytes.Equal(got, back) {
			t.Errorf("with a key of %d bytes something is kept: %x, not %x", n, got, back)
		}
		first := encrypted(t, c, b)
		clear(b)
		if !bytes.Equal(first, there) {
			t.Errorf("with a key of %d bytes an answer is what was handed in", n)
		}
	}
}

func TestAnswersAreNew(t *testing.T) {
	for _, n := range []int{16, 32} {
		c, b := made(t, rising(n)), rising(16)
		for what, call := range map[string]func([]byte) ([]byte, api.Errno){"Encrypt": c.Encrypt, "Decrypt": c.Decrypt} {
			first, _ := call(b)
			second, _ := call(b)
			old := slices.Clone(second)
			for i := range first[:cap(first)] {
				first[:cap(first)][i] ^= 255
			}
			third, _ := call(b)
			if !bytes.Equal(second, old) || !bytes.Equal(third, old) || !bytes.Equal(b, rising(16)) {
				t.Errorf("%s shares its answer with something else", what)
			}
		}
	}
}

// TestCiphersStandAlone: what one is told no other one tells, and what it was told before neither.
func TestCiphersStandAlone(t *testing.T) {
	f := field.New()
	one, _ := New(f, rising(16))
	b := rising(16)
	want := encrypted(t, one, b)
	for i := range 20 {
		other, _ := New(f, bytes.Repeat([]byte{byte(i)}, 32))
		encrypted(t, other, b)
		decrypted(t, one, bytes.Repeat([]byte{byte(i)}, 16))
		one.Encrypt(rising(i))
		if got := encrypted(t, one, b); !bytes.Equal(got, want) {
			t.Fatalf("a cipher tells %x, then %x", want, got)
		}
	}
	again, _ := New(f, rising(16))
	if again == one {
		t.Error("New tells the same cipher twice")
	}
}

// TestAtOnce: a cipher may be asked by many at once.
func TestAtOnce(t *testing.T) {
	c, b := made(t, rising(32)), rising(16)
	want := encrypted(t, c, b)
	var all sync.WaitGroup
	for range 8 {
		all.Go(func() {
			for range 100 {
				there, _ := c.Encrypt(b)
				back, _ := c.Decrypt(there)
				if !bytes.Equal(there, want) || !bytes.Equal(back, b) {
					t.Error("asked at once it tells something else")
					return
				}
			}
		})
	}
	all.Wait()
}

func BenchmarkNew(b *testing.B) {
	f, key := field.New(), rising(32)
	for b.Loop() {
		New(f, key)
	}
}

func BenchmarkEncrypt(b *testing.B) {
	c, _ := New(field.New(), rising(32))
	block := rising(16)
	for b.Loop() {
		c.Encrypt(block)
	}
}
