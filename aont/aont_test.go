package aont

import (
	"bytes"
	"crypto/aes"
	library "crypto/cipher"
	"crypto/sha256"
	"encoding/hex"
	"math/rand"
	"slices"
	"sync"
	"testing"

	"largesse/api"
	"largesse/field"
)

// hexed: the bytes that are written so.
func hexed(t *testing.T, s string) []byte {
	t.Helper()
	b, err := hex.DecodeString(s)
	if err != nil {
		t.Fatal(err)
	}
	return b
}

// some: so many bytes.
func some(r *rand.Rand, n int) []byte {
	b := make([]byte, n)
	for i := range b {
		b[i] = byte(r.Intn(256))
	}
	return b
}

// rising: 0, 1, 2 ..
func rising(n int) []byte {
	b := make([]byte, n)
	for i := range b {
		b[i] = byte(i)
	}
	return b
}

// roomy: the same bytes, with room behind them, that is filled too.
func roomy(b []byte) []byte {
	return slices.Concat(b, bytes.Repeat([]byte{77}, 100))[:len(b)]
}

// wrapped: a package, asked for rightly.
func wrapped(t *testing.T, f *field.Field, key, b []byte) []byte {
	t.Helper()
	p, err := Wrap(f, key, b)
	if err != api.OK || len(p) != len(b)+Extra {
		t.Fatalf("Wrap of %d bytes under %x: %d bytes, %d", len(b), key, len(p), err)
	}
	return p
}

// opened: a package's bytes, asked for rightly.
func opened(t *testing.T, f *field.Field, p []byte) []byte {
	t.Helper()
	b, err := Open(f, p)
	if err != api.OK || len(b) != len(p)-Extra {
		t.Fatalf("Open of %d bytes: %d bytes, %d", len(p), len(b), err)
	}
	return b
}

// keyed: a package's key, asked for rightly.
func keyed(t *testing.T, p []byte) []byte {
	t.Helper()
	key, err := Key(p)
	if err != api.OK || len(key) != api.KeySize {
		t.Fatalf("Key of %d bytes: %d bytes, %d", len(p), len(key), err)
	}
	return key
}

// plus: bytes of one length, added bit by bit.
func plus(a, b []byte) []byte {
	out := slices.Clone(a)
	for i := range out {
		out[i] ^= b[i]
	}
	return out
}

// sum: by the library.
func sum(b []byte) []byte {
	out := sha256.Sum256(b)
	return out[:]
}

// streamed: bytes, added to a key's stream, by the library.
func streamed(t *testing.T, key, b []byte) []byte {
	t.Helper()
	one, err := aes.NewCipher(key)
	if err != nil {
		t.Fatal(err)
	}
	out := make([]byte, len(b))
	library.NewCTR(one, make([]byte, 16)).XORKeyStream(out, b)
	return out
}

// other: the package, by the library.
func other(t *testing.T, key, b []byte) []byte {
	t.Helper()
	ahead := streamed(t, key, b)
	return slices.Concat(ahead, plus(key, sum(ahead)))
}

// check: bytes and their package, against the library's, there and back.
func check(t *testing.T, f *field.Field, key, b []byte) {
	t.Helper()
	p := wrapped(t, f, key, b)
	if !bytes.Equal(p, other(t, key, b)) {
		t.Fatalf("Wrap of %d bytes under %x isn't the library's", len(b), key)
	}
	if got := keyed(t, p); !bytes.Equal(got, key) {
		t.Fatalf("Key of the package of %d bytes: %x, not %x", len(b), got, key)
	}
	if got := opened(t, f, p); !bytes.Equal(got, b) {
		t.Fatalf("Open of the package of %d bytes under %x: others", len(b), key)
	}
}

// known are keys, bytes and packages, that OpenSSL's AES-256 in counter mode and SHA-256 tell.
var known = []struct{ key, b, want string }{
	{"0000000000000000000000000000000000000000000000000000000000000000", "",
		"e3b0c44298fc1c149afbf4c8996fb92427ae41e4649b934ca495991b7852b855"},
	{"000102030405060708090a0b0c0d0e0f101112131415161718191a1b1c1d1e1f", "",
		"e3b1c6419cf91a1392f2fec39562b72b37bf53f7708e855bbc8c8300644fa64a"},
	{"0000000000000000000000000000000000000000000000000000000000000000",
		"000000000000000000000000000000000000000000000000000000000000000000000000000000000000000000000000",
		"dc95c078a2408989ad48a21492842087530f8afbc74536b9a963b4f1c4cb738bcea7403d4d606b6e074ec5d3baf39d18" +
			"3dc7f240071bb60ec36b4f9f646787be0bcaecbc5564b972406d9786c1a411bf"},
	{"000102030405060708090a0b0c0d0e0f101112131415161718191a1b1c1d1e1f", "68656c6c6f",
		"9af56cda45" + "813e3074c69146f96419e551edd864c2224a9ed48ffbf4a6c85a3e3098153e7e"},
	{"ffffffffffffffffffffffffffffffffffffffffffffffffffffffffffffffff",
		"000102030405060708090a0b0c0d0e0f101112131415161718191a1b1c1d1e1f20",
		"4bf95d185951abbb3872000f8f84a3c42fc4a63346cbfd524f2d6b909856248ce7" +
			"1c1561b64c86eaf0b31689483fea7bda8c7b5988a15f21955e4de12f0dd413e0"},
}

// P11.1

func TestExtra(t *testing.T) {
	if Extra != 32 {
		t.Errorf("Extra is %d", Extra)
	}
}

func TestKnown(t *testing.T) {
	f := field.New()
	for _, c := range known {
		key, b, want := hexed(t, c.key), hexed(t, c.b), hexed(t, c.want)
		if got := wrapped(t, f, key, b); !bytes.Equal(got, want) {
			t.Errorf("Wrap of %s under %s: %x, not %x", c.b, c.key, got, want)
		}
		if got := keyed(t, want); !bytes.Equal(got, key) {
			t.Errorf("Key of %x: %x, not %x", want, got, key)
		}
		if got := opened(t, f, want); !bytes.Equal(got, b) {
			t.Errorf("Open of %x: %x, not %x", want, got, b)
		}
	}
}

// TestNothing: a package of nothing is the key, added to the sum of nothing.
func TestNothing(t *testing.T) {
	f, r := field.New(), rand.New(rand.NewSource(1))
	for range 50 {
		key := some(r, api.KeySize)
		want := plus(key, sum(nil))
		for what, b := range map[string][]byte{"nil": nil, "no bytes": {}, "no bytes, but room for some": rising(50)[:0]} {
			if got := wrapped(t, f, key, b); !bytes.Equal(got, want) {
				t.Errorf("Wrap of %s: %x, not %x", what, got, want)
			}
		}
		if got := opened(t, f, want); len(got) != 0 {
			t.Errorf("Open of a package of nothing: %x", got)
		}
	}
}

func TestEachLength(t *testing.T) {
	f, r := field.New(), rand.New(rand.NewSource(2))
	for n := range 600 {
		check(t, f, some(r, api.KeySize), some(r, n))
	}
	for _, n := range []int{1023, 1024, 4096, 16*256 - 1, 16*256 + 1, 16*65536 - 1} {
		check(t, f, some(r, api.KeySize), some(r, n))
	}
}

// TestEachBitOfAKey: none is left out.
func TestEachBitOfAKey(t *testing.T) {
	f, b := field.New(), rising(50)
	for _, first := range []byte{0, 255} {
		key := bytes.Repeat([]byte{first}, api.KeySize)
		for i := range 8 * api.KeySize {
			key[i/8] ^= 1 << (i % 8)
			check(t, f, key, b)
			key[i/8] ^= 1 << (i % 8)
		}
	}
}

// TestLikeAPackage: bytes that are a package, or the key's, are bytes like others.
func TestLikeAPackage(t *testing.T) {
	f, key := field.New(), rising(api.KeySize)
	b := []byte("hello")
	for range 5 {
		check(t, f, key, b)
		b = wrapped(t, f, key, b)
	}
	check(t, f, key, key)
}

func TestLong(t *testing.T) {
	f, key := field.New(), rising(api.KeySize)
	b := some(rand.New(rand.NewSource(3)), 1<<20+2)
	for _, n := range []int{1<<20 - 1, 1 << 20} {
		// With room behind them, that doesn't count.
		check(t, f, key, b[:n])
	}
	for _, n := range []int{1<<20 + 1, 1<<20 + 2} {
		if out, err := Wrap(f, key, b[:n]); out != nil || err != api.ErrLong {
			t.Errorf("Wrap of %d bytes: %d bytes, %d", n, len(out), err)
		}
		p := other(t, key, b[:n])
		if out, err := Open(f, p); out != nil || err != api.ErrLong {
			t.Errorf("Open of the package of %d bytes: %d bytes, %d", n, len(out), err)
		}
		// The key's own bytes don't count, and for a key there may be any number ahead.
		if got := keyed(t, p); !bytes.Equal(got, key) {
			t.Errorf("Key of the package of %d bytes: %x", n, got)
		}
	}
	if got := keyed(t, make([]byte, 3<<20)); !bytes.Equal(got, sum(make([]byte, 3<<20-Extra))) {
		t.Errorf("Key of many noughts: %x", got)
	}
}

// TestKeysOfAnotherLength: those of the other cipher too; and too many bytes come later.
func TestKeysOfAnotherLength(t *testing.T) {
	f, long := field.New(), make([]byte, 1<<20+1)
	for n := range 100 {
		if n == api.KeySize {
			continue
		}
		// With room behind them, that is no part of the key.
		for _, key := range [][]byte{roomy(rising(n)), nil} {
			for _, b := range [][]byte{nil, rising(5), long} {
				if out, err := Wrap(f, key, b); out != nil || err != api.ErrForm {
					t.Errorf("Wrap of %d bytes under a key of %d: %d bytes, %d", len(b), len(key), len(out), err)
				}
			}
		}
	}
}

func TestTooShortForAPackage(t *testing.T) {
	f := field.New()
	whole := wrapped(t, f, rising(api.KeySize), []byte("hello"))
	for n := range Extra {
		for _, p := range [][]byte{nil, make([]byte, n), roomy(rising(n)), whole[:n]} {
			if out, err := Key(p); out != nil || err != api.ErrForm {
				t.Errorf("Key of %d bytes: %x, %d", len(p), out, err)
			}
			if out, err := Open(f, p); out != nil || err != api.ErrForm {
				t.Errorf("Open of %d bytes: %x, %d", len(p), out, err)
			}
		}
	}
}

// TestNoField: whatever else is wrong comes later.
func TestNoField(t *testing.T) {
	long := make([]byte, 1<<20+Extra+1)
	for _, key := range [][]byte{nil, rising(16), rising(31), rising(api.KeySize), rising(33)} {
		for _, b := range [][]byte{nil, rising(5), long} {
			if out, err := Wrap(nil, key, b); out != nil || err != api.ErrArg {
				t.Errorf("Wrap of %d bytes under a key of %d, without a field: %d bytes, %d", len(b), len(key), len(out), err)
			}
		}
	}
	for _, p := range [][]byte{nil, rising(31), rising(Extra), rising(100), long} {
		if out, err := Open(nil, p); out != nil || err != api.ErrArg {
			t.Errorf("Open of %d bytes without a field: %d bytes, %d", len(p), len(out), err)
		}
	}
}

// P11.2

// TestThereAndBack: bits of all kinds, under keys of all kinds.
func TestThereAndBack(t *testing.T) {
	f, r := field.New(), rand.New(rand.NewSource(4))
	for _, n := range []int{0, 1, 15, 16, 17, 31, 32, 33, 63, 64, 65, 440, 473, 512, 4096} {
		for _, b := range [][]byte{some(r, n), make([]byte, n), bytes.Repeat([]byte{255}, n)} {
			for _, key := range [][]byte{some(r, api.KeySize), make([]byte, api.KeySize), bytes.Repeat([]byte{255}, api.KeySize)} {
				p := wrapped(t, f, key, b)
				if got := opened(t, f, p); !bytes.Equal(got, b) {
					t.Errorf("Open of what Wrap tells of %d bytes: others", n)
				}
				if n > 8 && bytes.Contains(p, b[:9]) {
					t.Errorf("a package of %d bytes shows them", n)
				}
			}
		}
	}
}

// TestBackAndThere: any bytes that are enough are a package, of some bytes under some key.
func TestBackAndThere(t *testing.T) {
	f, r := field.New(), rand.New(rand.NewSource(5))
	for range 500 {
		p := some(r, Extra+r.Intn(200))
		at := len(p) - Extra
		key := keyed(t, p)
		if want := plus(p[at:], sum(p[:at])); !bytes.Equal(key, want) {
			t.Fatalf("Key of %x: %x, not %x", p, key, want)
		}
		b := opened(t, f, p)
		if want := streamed(t, key, p[:at]); !bytes.Equal(b, want) {
			t.Fatalf("Open of %x: %x, not %x", p, b, want)
		}
		if got := wrapped(t, f, key, b); !bytes.Equal(got, p) {
			t.Fatalf("Wrap of what %x opens to: %x", p, got)
		}
	}
}

// TestBitsOfTheLast: one that is changed changes the same bit of the key, and with it all of the bytes.
func TestBitsOfTheLast(t *testing.T) {
	f, r := field.New(), rand.New(rand.NewSource(6))
	for _, n := range []int{0, 1, 40, 440} {
		key, b := some(r, api.KeySize), some(r, n)
		p := wrapped(t, f, key, b)
		for i := range 8 * Extra {
			p[n+i/8] ^= 1 << (i % 8)
			want := slices.Clone(key)
			want[i/8] ^= 1 << (i % 8)
			if got := keyed(t, p); !bytes.Equal(got, want) {
				t.Fatalf("bit %d changes the key to %x, not %x", i, got, want)
			}
			if got := opened(t, f, p); !bytes.Equal(got, streamed(t, want, p[:n])) || n >= 40 && bytes.Equal(got, b) {
				t.Fatalf("with bit %d changed Open tells %x", i, got)
			}
			p[n+i/8] ^= 1 << (i % 8)
		}
	}
}

// TestBitsAhead: one that is changed changes the key by what the sums differ.
func TestBitsAhead(t *testing.T) {
	f, r := field.New(), rand.New(rand.NewSource(7))
	for _, n := range []int{1, 16, 33, 64, 100} {
		key, b := some(r, api.KeySize), some(r, n)
		p := wrapped(t, f, key, b)
		old := sum(p[:n])
		for i := range 8 * n {
			p[i/8] ^= 1 << (i % 8)
			want := plus(key, plus(old, sum(p[:n])))
			if got := keyed(t, p); !bytes.Equal(got, want) || bytes.Equal(got, key) {
				t.Fatalf("bit %d of %d bytes changes the key to %x, not %x", i, n, got, want)
			}
			if got := opened(t, f, p); !bytes.Equal(got, streamed(t, want, p[:n])) {
				t.Fatalf("with bit %d of %d bytes changed Open tells %x", i, n, got)
			}
			p[i/8] ^= 1 << (i % 8)
		}
	}
}

func TestNothingIsChanged(t *testing.T) {
	f := field.New()
	fields := *f
	for _, n := range []int{0, 1, 16, 40, 440} {
		key, b := roomy(rising(api.KeySize)), roomy(rising(n))
		p := roomy(wrapped(t, f, key, b))
		oldKey, oldB, oldP := slices.Clone(key[:cap(key)]), slices.Clone(b[:cap(b)]), slices.Clone(p[:cap(p)])
		wrapped(t, f, key, b)
		opened(t, f, p)
		keyed(t, p)
		if !bytes.Equal(key[:cap(key)], oldKey) || !bytes.Equal(b[:cap(b)], oldB) || !bytes.Equal(p[:cap(p)], oldP) {
			t.Errorf("with %d bytes what is handed in is changed", n)
		}
	}
	if *f != fields {
		t.Error("the field is changed")
	}
}

// TestNothingIsKept: an answer stays when what was handed in is another, and the next one tells nothing of it.
func TestNothingIsKept(t *testing.T) {
	f := field.New()
	for _, n := range []int{0, 1, 16, 40, 440} {
		key, b := rising(api.KeySize), rising(n)
		p := wrapped(t, f, key, b)
		want := slices.Clone(p)
		clear(key)
		clear(b)
		if !bytes.Equal(p, want) {
			t.Errorf("Wrap of %d bytes shares its answer with what was handed in", n)
		}
		check(t, f, key, b)
		gotKey, gotB := keyed(t, p), opened(t, f, p)
		clear(p)
		if !bytes.Equal(gotKey, rising(api.KeySize)) || !bytes.Equal(gotB, rising(n)) {
			t.Errorf("of a package of %d bytes an answer shares something with it", n)
		}
		if got := keyed(t, p); !bytes.Equal(got, sum(p[:n])) {
			t.Errorf("Key tells of the package ahead: %x", got)
		}
	}
}

// TestBytesThatAreTheKey: what is handed in may be one memory.
func TestBytesThatAreTheKey(t *testing.T) {
	b := some(rand.New(rand.NewSource(8)), 100)
	old := slices.Clone(b)
	check(t, field.New(), b[:api.KeySize], b)
	check(t, field.New(), b[20:20+api.KeySize], b[10:60])
	if !bytes.Equal(b, old) {
		t.Error("what is handed in is changed")
	}
}

func TestAnswersAreNew(t *testing.T) {
	f, key := field.New(), rising(api.KeySize)
	for _, n := range []int{0, 1, 16, 440} {
		b := rising(n)
		p := other(t, key, b)
		for what, call := range map[string]func() ([]byte, api.Errno){
			"Wrap": func() ([]byte, api.Errno) { return Wrap(f, key, b) },
			"Open": func() ([]byte, api.Errno) { return Open(f, p) },
			"Key":  func() ([]byte, api.Errno) { return Key(p) },
		} {
			first, _ := call()
			second, _ := call()
			old := slices.Clone(second)
			for i := range first[:cap(first)] {
				first[:cap(first)][i] ^= 255
			}
			third, _ := call()
			if !bytes.Equal(second, old) || !bytes.Equal(third, old) {
				t.Errorf("%s, with %d bytes, shares its answer with another", what, n)
			}
			if !bytes.Equal(key, rising(api.KeySize)) || !bytes.Equal(b, rising(n)) || !bytes.Equal(p, other(t, key, b)) {
				t.Fatalf("%s, with %d bytes, shares its answer with what was handed in", what, n)
			}
		}
	}
}

// TestAnyField: each one that is made is the same.
func TestAnyField(t *testing.T) {
	key, b := rising(api.KeySize), rising(77)
	p := wrapped(t, field.New(), key, b)
	if got := opened(t, field.New(), p); !bytes.Equal(got, b) {
		t.Errorf("under another field Open tells %x", got)
	}
}

// TestAtOnce: many may ask at once, with one field.
func TestAtOnce(t *testing.T) {
	f := field.New()
	var all sync.WaitGroup
	for i := range 8 {
		key, b := bytes.Repeat([]byte{byte(i)}, api.KeySize), bytes.Repeat([]byte{byte(i)}, 20*i)
		want := other(t, key, b)
		all.Go(func() {
			for range 20 {
				p, _ := Wrap(f, key, b)
				back, _ := Open(f, p)
				if !bytes.Equal(p, want) || !bytes.Equal(back, b) {
					t.Error("asked at once it tells something else")
					return
				}
			}
		})
	}
	all.Wait()
}

func BenchmarkWrap(b *testing.B) {
	f, key, block := field.New(), rising(api.KeySize), rising(api.BlockSize)
	for b.Loop() {
		Wrap(f, key, block)
	}
}

func BenchmarkOpen(b *testing.B) {
	f := field.New()
	p, _ := Wrap(f, rising(api.KeySize), rising(api.BlockSize))
	for b.Loop() {
		Open(f, p)
	}
}
