package hash

import (
	"bytes"
	"crypto/sha256"
	"encoding/hex"
	"math/big"
	"math/rand"
	"slices"
	"strings"
	"sync"
	"testing"
)

// some: so many bytes.
func some(r *rand.Rand, n int) []byte {
	b := make([]byte, n)
	for i := range b {
		b[i] = byte(r.Intn(256))
	}
	return b
}

// rising: 0, 1, 2 ..
func rising(n int) []byte {
	b := make([]byte, n)
	for i := range b {
		b[i] = byte(i)
	}
	return b
}

// other: the sum, by the library.
func other(b []byte) []byte {
	sum := sha256.Sum256(b)
	return sum[:]
}

// check: the sum of parts, against the library's of all.
func check(t *testing.T, parts ...[]byte) {
	t.Helper()
	all := slices.Concat(parts...)
	if got := Sum(parts...); !bytes.Equal(got, other(all)) {
		t.Fatalf("Sum of %d bytes in %d parts: %x, not %x", len(all), len(parts), got, other(all))
	}
}

// P7.1

// TestKnownSums: of FIPS 180-4's examples, and of the further ones that NIST tells.
func TestKnownSums(t *testing.T) {
	for _, c := range []struct{ what, want string }{
		{"", "e3b0c44298fc1c149afbf4c8996fb92427ae41e4649b934ca495991b7852b855"},
		{"abc", "ba7816bf8f01cfea414140de5dae2223b00361a396177a9cb410ff61f20015ad"},
		{"abcdbcdecdefdefgefghfghighijhijkijkljklmklmnlmnomnopnopq",
			"248d6a61d20638b8e5c026930c3e6039a33ce45964ff2167f6ecedd419db06c1"},
		{"abcdefghbcdefghicdefghijdefghijkefghijklfghijklmghijklmnhijklmnoijklmnopjklmnopqklmnopqrlmnopqrsmnopqrstnopqrstu",
			"cf5b16a778af8380036ce59e7b0492370b249b11e8f07a51afac45037afee9d1"},
		{strings.Repeat("a", 1000000), "cdc76e5c9914fb9281a1c7e284d73e67f1809a48a497200e046d39ccc7112cd0"},
		{"\xbd", "68325720aabd7c82f30f554b313d0570c95accbb7dc4b5aae11204c08ffe732b"},
		{"\xc9\x8c\x8e\x55", "7abc22c0ae5af26ce93dbb94433a0e0b2e119d014f8e7f65bd56c61ccccd9504"},
		{strings.Repeat("\x00", 55), "02779466cdec163811d078815c633f21901413081449002f24aa3e80f0b88ef7"},
		{strings.Repeat("\x00", 56), "d4817aa5497628e7c77e6b606107042bbba3130888c5f47a375e6179be789fbb"},
		{strings.Repeat("\x00", 57), "65a16cb7861335d5ace3c60718b5052e44660726da4cd13bb745381b235a1785"},
		{strings.Repeat("\x00", 64), "f5a5fd42d16a20302798ef6ed309979b43003d2320d9f0e8ea9831a92759fb4b"},
		{strings.Repeat("\x00", 1000), "541b3e9daa09b20bf85fa273e5cbd3e80185aa4ec298e765db87742b70138a53"},
		{strings.Repeat("\x41", 1000), "c2e686823489ced2017f6059b8b239318b6364f6dcd835d0a519105a1eadd6e4"},
		{strings.Repeat("\x55", 1005), "f4d62ddec0f3dd90ea1380fa16a5ff8dc4c54b21740650f24afc4120903552b0"},
	} {
		if got := hex.EncodeToString(Sum([]byte(c.what))); got != c.want {
			t.Errorf("Sum of %d bytes: %s, not %s", len(c.what), got, c.want)
		}
	}
}

func TestSize(t *testing.T) {
	if Size != 32 {
		t.Errorf("Size is %d", Size)
	}
	for n := range 300 {
		if got := len(Sum(rising(n))); got != Size {
			t.Errorf("Sum of %d bytes has %d", n, got)
		}
	}
}

// TestNothing: no parts, and parts without bytes.
func TestNothing(t *testing.T) {
	want := other(nil)
	for what, parts := range map[string][][]byte{
		"no parts": {}, "nil": nil, "a nil part": {nil}, "an empty part": {{}},
		"nil and empty parts": {nil, {}, nil, {}}, "no bytes, but room for some": {rising(70)[:0]},
	} {
		if got := Sum(parts...); !bytes.Equal(got, want) {
			t.Errorf("Sum of %s: %x, not %x", what, got, want)
		}
	}
	if got := Sum(); !bytes.Equal(got, want) {
		t.Errorf("Sum: %x, not %x", got, want)
	}
}

// TestEachLength: round the end of each block, and where the number of bits takes a byte more.
func TestEachLength(t *testing.T) {
	r := rand.New(rand.NewSource(1))
	for n := range 1100 {
		check(t, some(r, n))
		check(t, make([]byte, n))
		check(t, bytes.Repeat([]byte{255}, n))
	}
	for _, edge := range []int{1 << 13, 1 << 16, 1 << 21} {
		for n := edge - 10; n <= edge+10; n++ {
			check(t, make([]byte, n))
		}
	}
}

// TestEachBit: none is left out, nor added twice.
func TestEachBit(t *testing.T) {
	for _, first := range []byte{0, 255} {
		for _, n := range []int{1, 55, 56, 64, 130} {
			b := bytes.Repeat([]byte{first}, n)
			for i := range 8 * n {
				b[i/8] ^= 1 << (i % 8)
				check(t, b)
				b[i/8] ^= 1 << (i % 8)
			}
		}
	}
}

// TestEndsAlike: bytes that are like what stands behind others have another sum.
func TestEndsAlike(t *testing.T) {
	for n := range 130 {
		b := some(rand.New(rand.NewSource(int64(n))), n)
		want := Sum(b)
		for _, end := range [][]byte{{0}, {128}, {128, 0}, {128, 0, 0, 0, 0, 0, 0, 0, byte(n)}, make([]byte, 64)} {
			check(t, b, end)
			if bytes.Equal(Sum(b, end), want) {
				t.Errorf("Sum of %d bytes and %x is that without them", n, end)
			}
		}
	}
}

// TestOneBehindTheOther: each time the sum of the sum ahead.
func TestOneBehindTheOther(t *testing.T) {
	got, want := []byte{}, []byte{}
	for range 5000 {
		got, want = Sum(got), other(want)
	}
	if !bytes.Equal(got, want) {
		t.Errorf("at last %x, not %x", got, want)
	}
}

// TestLong: more bits than four bytes can number.
func TestLong(t *testing.T) {
	if testing.Short() {
		t.Skip("it takes some seconds")
	}
	one := some(rand.New(rand.NewSource(2)), 1<<20)
	library := sha256.New()
	parts := [][]byte{}
	for range 1<<9 + 1 {
		parts = append(parts, one)
		library.Write(one)
	}
	if got, want := Sum(parts...), library.Sum(nil); !bytes.Equal(got, want) {
		t.Errorf("Sum of %d parts of %d bytes: %x, not %x", len(parts), len(one), got, want)
	}
}

// fraction: of the number's root of a degree, the first 32 bits of the fraction.
func fraction(x, degree int) uint32 {
	// The whole root of the number with so many times 32 bits behind it has 32 bits behind its own.
	all := new(big.Int).Lsh(big.NewInt(int64(x)), uint(32*degree))
	root := new(big.Int)
	for i := 40; i >= 0; i-- {
		root.SetBit(root, i, 1)
		if new(big.Int).Exp(root, big.NewInt(int64(degree)), nil).Cmp(all) > 0 {
			root.SetBit(root, i, 0)
		}
	}
	return uint32(root.Uint64())
}

func TestRoots(t *testing.T) {
	n := 0
	for p := 2; n < len(cubeRoots); p++ {
		if !big.NewInt(int64(p)).ProbablyPrime(0) {
			continue
		}
		if want := fraction(p, 3); cubeRoots[n] != want {
			t.Errorf("of %d the cube root is told as %#x, not %#x", p, cubeRoots[n], want)
		}
		if n < len(squareRoots) && squareRoots[n] != fraction(p, 2) {
			t.Errorf("of %d the square root is told as %#x, not %#x", p, squareRoots[n], fraction(p, 2))
		}
		n++
	}
}

// P7.2

// TestEachCut: into two parts, and into three, of all lengths round a block's end.
func TestEachCut(t *testing.T) {
	r := rand.New(rand.NewSource(3))
	for _, n := range []int{1, 2, 3, 31, 54, 55, 56, 57, 63, 64, 65, 119, 120, 127, 128, 129, 200} {
		b := some(r, n)
		for i := range n + 1 {
			check(t, b[:i], b[i:])
			for j := i; j <= n; j++ {
				check(t, b[:i], b[i:j], b[j:])
			}
		}
	}
}

func TestPartsOfOneLength(t *testing.T) {
	b := some(rand.New(rand.NewSource(4)), 1000)
	for step := 1; step <= 200; step++ {
		check(t, slices.Collect(slices.Chunk(b, step))...)
	}
}

// TestPartsWithoutBytes: ahead of others, between them and behind them.
func TestPartsWithoutBytes(t *testing.T) {
	for n := range 130 {
		b := some(rand.New(rand.NewSource(int64(n))), n)
		want := Sum(b)
		for _, parts := range [][][]byte{
			{nil, b}, {b, nil}, {{}, b}, {b, {}}, {nil, {}, b, nil, {}},
			{b[:n/2], nil, b[n/2:]}, {nil, b[:n/2], {}, {}, b[n/2:], nil},
		} {
			if got := Sum(parts...); !bytes.Equal(got, want) {
				t.Errorf("Sum of %d bytes, with parts of none among them: %x, not %x", n, got, want)
			}
		}
	}
}

func TestCutAnyhow(t *testing.T) {
	r := rand.New(rand.NewSource(5))
	for range 2000 {
		b := some(r, r.Intn(500))
		parts, rest := [][]byte{}, b
		for len(rest) > 0 {
			n := r.Intn(min(len(rest), 150) + 1)
			parts = append(parts, rest[:n])
			rest = rest[n:]
		}
		check(t, parts...)
	}
}

// TestOrder: parts count in their order, and one that comes twice counts twice.
func TestOrder(t *testing.T) {
	a, b := rising(40), some(rand.New(rand.NewSource(6)), 40)
	check(t, a, b)
	check(t, b, a)
	check(t, a, a, b, a)
	if bytes.Equal(Sum(a, b), Sum(b, a)) || bytes.Equal(Sum(a), Sum(a, a)) {
		t.Error("other bytes have the same sum")
	}
}

// TestPartsThatShare: their bytes may be those of one memory.
func TestPartsThatShare(t *testing.T) {
	b := rising(200)
	check(t, b, b[10:], b[:70], b[50:60], b)
}

func TestNothingIsChanged(t *testing.T) {
	for _, n := range []int{0, 1, 50, 55, 56, 63, 64, 65, 130} {
		// With room behind them, that is filled too.
		b := rising(n + 100)[:n]
		list := [][]byte{b, b[:n/2], {77}}
		old := slices.Clone(b[:cap(b)])
		Sum(list[:2]...)
		Sum(b)
		if !bytes.Equal(b[:cap(b)], old) {
			t.Errorf("of %d bytes some are changed", n)
		}
		if len(list[0]) != n || len(list[1]) != n/2 || !bytes.Equal(list[2], []byte{77}) {
			t.Errorf("with %d bytes the list of parts is changed", n)
		}
	}
}

// TestNothingIsKept: an answer stays when what was handed in is another, and the next one tells nothing of it.
func TestNothingIsKept(t *testing.T) {
	for _, n := range []int{1, 32, 63, 64, 100} {
		b := rising(n)
		first := Sum(b)
		clear(b)
		if !bytes.Equal(first, other(rising(n))) {
			t.Errorf("Sum of %d bytes shares its answer with them", n)
		}
		if got := Sum(b); !bytes.Equal(got, other(make([]byte, n))) {
			t.Errorf("Sum of %d bytes tells of those ahead: %x", n, got)
		}
		if got := Sum(); !bytes.Equal(got, other(nil)) {
			t.Errorf("Sum of nothing tells of %d bytes ahead: %x", n, got)
		}
	}
}

func TestAnswersAreNew(t *testing.T) {
	for _, parts := range [][][]byte{nil, {rising(5)}, {rising(32)}, {rising(64), rising(64)}} {
		first, second := Sum(parts...), Sum(parts...)
		old := slices.Clone(second)
		for i := range first[:cap(first)] {
			first[:cap(first)][i] ^= 255
		}
		third := Sum(parts...)
		if !bytes.Equal(second, old) || !bytes.Equal(third, old) {
			t.Errorf("Sum of %d parts shares its answer with something else", len(parts))
		}
	}
}

// TestAtOnce: sums may be asked for by many at once.
func TestAtOnce(t *testing.T) {
	var all sync.WaitGroup
	for i := range 8 {
		b := bytes.Repeat([]byte{byte(i)}, 50+20*i)
		want := other(b)
		all.Go(func() {
			for range 200 {
				if !bytes.Equal(Sum(b[:20], b[20:]), want) {
					t.Error("asked at once it tells something else")
					return
				}
			}
		})
	}
	all.Wait()
}

func BenchmarkSum(b *testing.B) {
	part := rising(1 << 20)
	b.SetBytes(1 << 20)
	for b.Loop() {
		Sum(part)
	}
}
