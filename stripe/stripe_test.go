package stripe

import (
	"bytes"
	"crypto/aes"
	library "crypto/cipher"
	"crypto/sha256"
	"math"
	"math/rand"
	"slices"
	"sync"
	"testing"

	"largesse/api"
	"largesse/field"
)

// some: so many bytes.
func some(r *rand.Rand, n int) []byte {
	b := make([]byte, n)
	for i := range b {
		b[i] = byte(r.Intn(256))
	}
	return b
}

// upTo: the places from 1 on.
func upTo(n int) []int {
	out := []int{}
	for i := 1; i <= n; i++ {
		out = append(out, i)
	}
	return out
}

// copied: the same rows, apart.
func copied(rows [][]byte) [][]byte {
	out := [][]byte{}
	for _, row := range rows {
		out = append(out, slices.Clone(row))
	}
	return out
}

// same: are these the same rows?
func same(a, b [][]byte) bool {
	return slices.EqualFunc(a, b, bytes.Equal)
}

// noughts: so many rows of them.
func noughts(n, size int) [][]byte {
	out := [][]byte{}
	for range n {
		out = append(out, make([]byte, size))
	}
	return out
}

// picked: of the rows of all places, those at some.
func picked(rows [][]byte, places []int) [][]byte {
	out := [][]byte{}
	for _, p := range places {
		out = append(out, slices.Clone(rows[p-1]))
	}
	return out
}

// choices: all lists of k rising places up to n.
func choices(n, k int) [][]int {
	if k == 0 {
		return [][]int{nil}
	}
	out := [][]int{}
	for last := k; last <= n; last++ {
		for _, c := range choices(last-1, k-1) {
			out = append(out, append(slices.Clone(c), last))
		}
	}
	return out
}

// shuffled: the same places in any order.
func shuffled(r *rand.Rand, places []int) []int {
	out := slices.Clone(places)
	r.Shuffle(len(out), func(i, j int) { out[i], out[j] = out[j], out[i] })
	return out
}

// other: another byte.
func other(r *rand.Rand, b byte) byte { return b ^ byte(1+r.Intn(255)) }

// spread: rows, asked for rightly.
func spread(t *testing.T, s Shape, block, random []byte) [][]byte {
	t.Helper()
	rows, err := s.Spread(field.New(), block, random)
	if err != api.OK || len(rows) != s.N {
		t.Fatalf("Spread by %v: %d rows, %d", s, len(rows), err)
	}
	return rows
}

// gathered: a stripe, asked for rightly.
func gathered(t *testing.T, s Shape, places []int, rows [][]byte) *Stripe {
	t.Helper()
	x, err := s.Gather(field.New(), places, rows)
	if err != api.OK || x == nil {
		t.Fatalf("Gather by %v at %v: %d", s, places, err)
	}
	return x
}

// check: a stripe tells this block, these rows, and which were wrong.
func check(t *testing.T, what string, s Shape, x *Stripe, block []byte, rows [][]byte, wrong []int) {
	t.Helper()
	if b, err := x.Block(); err != api.OK || !bytes.Equal(b, block) {
		t.Fatalf("%s, by %v: Block: %d bytes, %d, or others", what, s, len(b), err)
	}
	for i, row := range rows {
		if got := x.Row(i + 1); !bytes.Equal(got, row) {
			t.Fatalf("%s, by %v: Row at %d: %d bytes, or others", what, s, i+1, len(got))
		}
	}
	if got := x.Wrong(); !slices.Equal(got, wrong) {
		t.Fatalf("%s, by %v: Wrong: %v, not %v", what, s, got, wrong)
	}
}

// products: all there are, by none of the program's own ways but Slow.
var products = sync.OnceValue(func() *[256][256]byte {
	out := &[256][256]byte{}
	for a := range 256 {
		for b := range 256 {
			out[a][b] = field.Slow(byte(a), byte(b))
		}
	}
	return out
})

// under: a by b, that isn't 0.
func under(a, b byte) byte {
	for c := range 256 {
		if products()[c][b] == a {
			return byte(c)
		}
	}
	panic("nothing, times b, is a")
}

// added: a row, to which a number times another one is added.
func added(row []byte, c byte, b []byte) {
	times := &products()[c]
	for i := range row {
		row[i] ^= times[b[i]]
	}
}

// slowShares: by Shamir, the shares of a secret at all places up to n; the mask's rows one behind the other.
func slowShares(n, t int, secret, mask []byte) [][]byte {
	out := noughts(n, len(secret))
	for p, row := range out {
		c := byte(1)
		for k := range t {
			if k == 0 {
				added(row, c, secret)
			} else {
				added(row, c, mask[(k-1)*len(secret):k*len(secret)])
			}
			c = products()[c][p+1]
		}
	}
	return out
}

// slowParcel: by the library, a byte 1 and the package of a block.
func slowParcel(block, key []byte) []byte {
	one, err := aes.NewCipher(key)
	if err != nil {
		panic(err)
	}
	ahead := make([]byte, len(block))
	library.NewCTR(one, make([]byte, 16)).XORKeyStream(ahead, block)
	sum := sha256.Sum256(ahead)
	last := slices.Clone(key)
	for i := range last {
		last[i] ^= sum[i]
	}
	return slices.Concat([]byte{1}, ahead, last)
}

// slowWeight: at x, what is 1 at the place i and 0 at the others up to t.
func slowWeight(t, i, x int) byte {
	out := byte(1)
	for j := 1; j <= t; j++ {
		if j != i {
			out = products()[out][under(byte(x^j), byte(i^j))]
		}
	}
	return out
}

// slowPieces: of bytes and noughts behind them, t parts, and what their polynomials have up to n.
func slowPieces(n, t int, b []byte) [][]byte {
	size := 0
	for size*t < len(b) {
		size++
	}
	b = append(slices.Clone(b), make([]byte, size*t-len(b))...)
	out := [][]byte{}
	for x := 1; x <= n; x++ {
		row := make([]byte, size)
		if x <= t {
			copy(row, b[(x-1)*size:])
		}
		for i := 1; i <= t && x > t; i++ {
			added(row, slowWeight(t, i, x), b[(i-1)*size:i*size])
		}
		out = append(out, row)
	}
	return out
}

// slowRows: what a block's rows should be.
func slowRows(s Shape, block, random []byte) [][]byte {
	if s.Mode == 0 {
		return slowShares(s.N, s.T, block, random)
	}
	return slowPieces(s.N, s.T, slowParcel(block, random))
}

// bothModes: the shapes of these thresholds and numbers of members, by each mode.
func bothModes(c int, l ...[2]int) []Shape {
	out := []Shape{}
	for _, x := range l {
		out = append(out, Shape{0, x[0], x[1], c}, Shape{1, x[0], x[1], c})
	}
	return out
}

// small: all shapes of up to six members.
func small(c int) []Shape {
	out := []Shape{}
	for n := 1; n <= 6; n++ {
		for t := 1; t <= n; t++ {
			out = append(out, bothModes(c, [2]int{t, n})...)
		}
	}
	return out
}

// great: some of more, and those at the ends.
func great(c int) []Shape {
	return bothModes(c, [2]int{3, 9}, [2]int{11, 20}, [2]int{43, 50}, [2]int{1, 255}, [2]int{2, 255}, [2]int{254, 254}, [2]int{255, 255})
}

// wrongShapes: those that may not be.
func wrongShapes() []Shape {
	return []Shape{
		{-1, 1, 1, 0}, {2, 1, 1, 0}, {3, 2, 4, 1}, {math.MaxInt, 2, 4, 1}, {math.MinInt, 2, 4, 1}, {256, 2, 4, 1}, {257, 2, 4, 1},
		{0, 0, 0, 0}, {0, 0, 1, 0}, {1, 0, 1, 0}, {0, -1, 4, 0}, {1, math.MinInt, 4, 0}, {0, 5, 4, 1}, {1, 2, 1, 0}, {0, 255, 254, 0},
		{0, 1, 0, 0}, {0, 1, -1, 0}, {1, -2, -1, 0}, {0, 1, math.MinInt, 0}, {0, 1, 256, 0}, {1, 256, 256, 0}, {0, 2, math.MaxInt, 0}, {1, math.MaxInt, math.MaxInt, 0},
		{0, 2, 4, -1}, {1, 2, 4, -1}, {0, 2, 4, 128}, {1, 2, 4, 128}, {0, 2, 4, math.MinInt}, {1, 2, 4, math.MaxInt}, {0, 2, 4, 256}, {1, 255, 255, 257},
		{0, 256, 255, 0}, {1, 258, 4, 0}, {0, 2, 260, 0},
	}
}

// P17.1

func TestModes(t *testing.T) {
	if Shamir != 0 || Aont != 1 {
		t.Errorf("the modes: %d, %d", Shamir, Aont)
	}
}

func TestRight(t *testing.T) {
	for mode := -2; mode <= 4; mode++ {
		for _, n := range []int{-1, 0, 1, 2, 3, 254, 255, 256, 257} {
			for _, least := range []int{-1, 0, 1, 2, 3, 4, 253, 254, 255, 256, 257} {
				for _, c := range []int{-2, -1, 0, 1, 126, 127, 128, 129, 255} {
					s := Shape{Mode: mode, T: least, N: n, C: c}
					want := (mode == 0 || mode == 1) && least >= 1 && least <= n && n <= 255 && c >= 0 && c <= 127
					if got := s.Right(); got != want {
						t.Errorf("Right of %v: %v", s, got)
					}
				}
			}
		}
	}
	for _, s := range wrongShapes() {
		if s.Right() {
			t.Errorf("Right of %v", s)
		}
	}
}

func TestSizes(t *testing.T) {
	for least := 1; least <= 255; least++ {
		for _, n := range []int{least, 255} {
			for _, c := range []int{0, 127} {
				s := Shape{Shamir, least, n, c}
				if s.RowSize() != 440 || s.Need() != (least-1)*440 {
					t.Errorf("by %v: rows of %d, needs %d", s, s.RowSize(), s.Need())
				}
				s = Shape{Aont, least, n, c}
				if size := s.RowSize(); size*least < 473 || (size-1)*least >= 473 || s.Need() != 32 {
					t.Errorf("by %v: rows of %d, needs %d", s, size, s.Need())
				}
			}
		}
	}
	for _, c := range []struct{ least, want int }{{1, 473}, {2, 237}, {3, 158}, {4, 119}, {11, 43}, {43, 11}, {128, 4}, {255, 2}} {
		if got := (Shape{Aont, c.least, 255, 1}).RowSize(); got != c.want {
			t.Errorf("of %d parts: rows of %d, not %d", c.least, got, c.want)
		}
	}
	for _, s := range wrongShapes() {
		if s.RowSize() != 0 || s.Need() != 0 {
			t.Errorf("by %v: rows of %d, needs %d", s, s.RowSize(), s.Need())
		}
	}
}

func TestSpread(t *testing.T) {
	r := rand.New(rand.NewSource(1))
	for _, s := range slices.Concat(small(0), small(127), great(1)) {
		for _, block := range [][]byte{some(r, 440), make([]byte, 440), bytes.Repeat([]byte{255}, 440)} {
			random := some(r, s.Need())
			if got := spread(t, s, block, random); !same(got, slowRows(s, block, random)) {
				t.Fatalf("Spread by %v isn't what it should be", s)
			}
		}
	}
}

func TestSpreadByKnownNumbers(t *testing.T) {
	block := bytes.Repeat([]byte{5}, 440)
	// Of the threshold 1 each row is the block, with nothing random.
	for _, random := range [][]byte{nil, {}} {
		for i, row := range spread(t, Shape{Shamir, 1, 3, 1}, block, random) {
			if !bytes.Equal(row, block) {
				t.Errorf("of the threshold 1, at %d: others", i+1)
			}
		}
	}
	// 5 and 3 times x; then 7 times its square, too.
	mask := bytes.Repeat([]byte{3}, 440)
	for i, row := range spread(t, Shape{Shamir, 2, 4, 0}, block, mask) {
		if !bytes.Equal(row, bytes.Repeat([]byte{6, 3, 0, 9}[i:i+1], 440)) {
			t.Errorf("of the threshold 2, at %d: %d ..", i+1, row[0])
		}
	}
	for i, row := range spread(t, Shape{Shamir, 3, 3, 0}, block, append(mask, bytes.Repeat([]byte{7}, 440)...)) {
		if !bytes.Equal(row, bytes.Repeat([]byte{1, 31, 27}[i:i+1], 440)) {
			t.Errorf("of the threshold 3, at %d: %d ..", i+1, row[0])
		}
	}
	// A package of noughts under a key of noughts begins with AES of noughts, and ends with the sum alone.
	parcel := spread(t, Shape{Aont, 1, 2, 0}, make([]byte, 440), make([]byte, 32))
	sum := sha256.Sum256(parcel[0][1:441])
	if !bytes.HasPrefix(parcel[0], []byte{1, 0xdc, 0x95, 0xc0, 0x78, 0xa2, 0x40, 0x89, 0x89, 0xad}) || !bytes.HasSuffix(parcel[0], sum[:]) {
		t.Errorf("one part: % x ..", parcel[0][:10])
	}
	if !bytes.Equal(parcel[0], parcel[1]) || len(parcel[0]) != 473 {
		t.Errorf("one part: the second piece is another, or of %d bytes", len(parcel[0]))
	}
	// The first pieces are the parts: 473 bytes and a nought.
	parts := spread(t, Shape{Aont, 2, 3, 0}, make([]byte, 440), make([]byte, 32))
	if got := slices.Concat(parts[0], parts[1]); !bytes.Equal(got, append(slices.Clone(parcel[0]), 0)) {
		t.Errorf("two parts: others, or %d bytes", len(got))
	}
}

// TestSpreadOfOtherRandomBytes: each of them counts.
func TestSpreadOfOtherRandomBytes(t *testing.T) {
	r := rand.New(rand.NewSource(2))
	for _, s := range bothModes(1, [2]int{2, 3}, [2]int{3, 5}) {
		block, random := some(r, 440), some(r, s.Need())
		rows := spread(t, s, block, random)
		for i := range random {
			changed := slices.Clone(random)
			changed[i] = other(r, changed[i])
			if same(rows, spread(t, s, block, changed)) {
				t.Fatalf("by %v: the random byte %d counts for nothing", s, i)
			}
		}
	}
}

func TestSpreadOfWrongArguments(t *testing.T) {
	f := field.New()
	right := Shape{Shamir, 2, 4, 1}
	wrong := Shape{Shamir, 5, 4, 1}
	aont := Shape{Aont, 2, 4, 1}
	for _, c := range []struct {
		what          string
		s             Shape
		f             *field.Field
		block, random int
		err           api.Errno
	}{
		{"no field", right, nil, 440, 440, api.ErrArg},
		{"no field, a wrong shape", wrong, nil, 440, 440, api.ErrArg},
		{"no field, no bytes", aont, nil, 0, 0, api.ErrArg},
		{"no field, nothing", Shape{}, nil, 0, 0, api.ErrArg},
		{"a wrong shape", wrong, f, 440, 440, api.ErrRange},
		{"a wrong shape, no bytes", wrong, f, 0, 0, api.ErrRange},
		{"no shape", Shape{}, f, 440, 0, api.ErrRange},
		{"no block", right, f, 0, 440, api.ErrForm},
		{"a byte fewer", right, f, 439, 440, api.ErrForm},
		{"a byte more", right, f, 441, 440, api.ErrForm},
		{"a byte fewer, by pieces", aont, f, 439, 32, api.ErrForm},
		{"a byte more, by pieces", aont, f, 441, 32, api.ErrForm},
		{"no random bytes", right, f, 440, 0, api.ErrForm},
		{"a random byte fewer", right, f, 440, 439, api.ErrForm},
		{"a random byte more", right, f, 440, 441, api.ErrForm},
		{"a row of random bytes more", right, f, 440, 880, api.ErrForm},
		{"a random byte, and none is needed", Shape{Shamir, 1, 4, 1}, f, 440, 1, api.ErrForm},
		{"no key", aont, f, 440, 0, api.ErrForm},
		{"half a key", aont, f, 440, 16, api.ErrForm},
		{"a key's byte fewer", aont, f, 440, 31, api.ErrForm},
		{"a key's byte more", aont, f, 440, 33, api.ErrForm},
		{"a mask for a key", aont, f, 440, 440, api.ErrForm},
		{"a key for a mask", right, f, 440, 32, api.ErrForm},
		{"neither", right, f, 439, 439, api.ErrForm},
	} {
		if rows, err := c.s.Spread(c.f, make([]byte, c.block), make([]byte, c.random)); err != c.err || rows != nil {
			t.Errorf("%s: %d rows, %d, not %d", c.what, len(rows), err, c.err)
		}
	}
	for _, s := range wrongShapes() {
		for _, n := range []int{0, 32, 440} {
			if rows, err := s.Spread(f, make([]byte, 440), make([]byte, n)); err != api.ErrRange || rows != nil {
				t.Errorf("by %v: %d rows, %d", s, len(rows), err)
			}
		}
	}
}

func TestFreshByShamir(t *testing.T) {
	f := field.New()
	r := rand.New(rand.NewSource(3))
	for _, s := range slices.Concat(small(0), great(1)) {
		if s.Mode != Shamir {
			continue
		}
		// Any rows: what is wrong stays as wrong as it was.
		rows, random := [][]byte{}, some(r, s.Need())
		for range s.N {
			rows = append(rows, some(r, 440))
		}
		got, err := s.Fresh(f, rows, random)
		want := slowShares(s.N, s.T, make([]byte, 440), random)
		for i := range want {
			added(want[i], 1, rows[i])
		}
		if err != api.OK || !same(got, want) {
			t.Fatalf("by %v: %d rows, %d, or others", s, len(got), err)
		}
	}
}

func TestFreshByPieces(t *testing.T) {
	f := field.New()
	r := rand.New(rand.NewSource(4))
	for _, s := range slices.Concat(small(0), small(2), great(1)) {
		if s.Mode != Aont {
			continue
		}
		// A block of noughts was written, too: its rows are none of noughts.
		for _, block := range [][]byte{some(r, 440), make([]byte, 440)} {
			rows := spread(t, s, block, some(r, 32))
			for _, key := range [][]byte{some(r, 32), make([]byte, 32)} {
				got, err := s.Fresh(f, rows, key)
				if err != api.OK || !same(got, slowRows(s, block, key)) {
					t.Fatalf("by %v: %d rows, %d, or others", s, len(got), err)
				}
			}
		}
		rows, err := s.Fresh(f, noughts(s.N, s.RowSize()), some(r, 32))
		if err != api.OK || !same(rows, noughts(s.N, s.RowSize())) {
			t.Fatalf("by %v, of noughts: %d rows, %d, or others", s, len(rows), err)
		}
	}
}

// TestFreshOfWrongPieces: with as many wrong ones as may be they tell their block still, with more nothing.
func TestFreshOfWrongPieces(t *testing.T) {
	f := field.New()
	r := rand.New(rand.NewSource(5))
	for n := 1; n <= 7; n++ {
		for least := 1; least <= n; least++ {
			for c := range 4 {
				s := Shape{Aont, least, n, c}
				e := min(c, (n-least)/2)
				block, key := some(r, 440), some(r, 32)
				spoilt := spread(t, s, block, some(r, 32))
				empty := noughts(n, s.RowSize())
				for _, p := range r.Perm(n)[:e] {
					spoilt[p], empty[p] = some(r, s.RowSize()), some(r, s.RowSize())
				}
				got, err := s.Fresh(f, spoilt, key)
				if err != api.OK || !same(got, slowRows(s, block, key)) {
					t.Fatalf("by %v, %d wrong: %d, or others", s, e, err)
				}
				got, err = s.Fresh(f, empty, key)
				if err != api.OK || !same(got, noughts(n, s.RowSize())) {
					t.Fatalf("by %v, of noughts, %d wrong: %d, or others", s, e, err)
				}
				if 2*(e+1) > n-least+1 {
					continue
				}
				rows := spread(t, s, block, some(r, 32))
				for _, p := range r.Perm(n)[:e+1] {
					rows[p] = some(r, s.RowSize())
				}
				if got, err := s.Fresh(f, rows, key); err != api.ErrCorrupt || got != nil {
					t.Fatalf("by %v, %d wrong: %d rows, %d", s, e+1, len(got), err)
				}
			}
		}
	}
	// Pieces of what is no marked package.
	for _, s := range []Shape{{Aont, 1, 1, 0}, {Aont, 2, 3, 0}, {Aont, 3, 7, 2}} {
		parcel := slowParcel(some(r, 440), some(r, 32))
		parcel[0] = 0
		if got, err := s.Fresh(f, slowPieces(s.N, s.T, parcel), some(r, 32)); err != api.ErrCorrupt || got != nil {
			t.Errorf("by %v, not marked: %d rows, %d", s, len(got), err)
		}
		// One byte alone that isn't nought.
		for at := range 473 {
			parcel := make([]byte, 473)
			parcel[at] = 2
			if got, err := s.Fresh(f, slowPieces(s.N, s.T, parcel), some(r, 32)); err != api.ErrCorrupt || got != nil {
				t.Fatalf("by %v, of noughts and a byte at %d: %d rows, %d", s, at, len(got), err)
			}
		}
	}
}

func TestFreshOfWrongArguments(t *testing.T) {
	f := field.New()
	for _, right := range []Shape{{Shamir, 2, 4, 1}, {Aont, 2, 4, 1}} {
		wrong := right
		wrong.C = 128
		size, need := right.RowSize(), right.Need()
		odd := func(at, size int) [][]byte {
			rows := noughts(right.N, right.RowSize())
			rows[at] = make([]byte, size)
			return rows
		}
		for _, c := range []struct {
			what   string
			s      Shape
			f      *field.Field
			rows   [][]byte
			random int
			err    api.Errno
		}{
			{"no field", right, nil, noughts(4, size), need, api.ErrArg},
			{"no field, a wrong shape", wrong, nil, noughts(4, size), need, api.ErrArg},
			{"no field, nothing", right, nil, nil, 0, api.ErrArg},
			{"a wrong shape", wrong, f, noughts(4, size), need, api.ErrRange},
			{"a wrong shape, nothing", wrong, f, nil, 0, api.ErrRange},
			{"no shape", Shape{}, f, nil, 0, api.ErrRange},
			{"no rows", right, f, nil, need, api.ErrForm},
			{"a row fewer", right, f, noughts(3, size), need, api.ErrForm},
			{"as many as are enough", right, f, noughts(2, size), need, api.ErrForm},
			{"a row more", right, f, noughts(5, size), need, api.ErrForm},
			{"all too short", right, f, noughts(4, size-1), need, api.ErrForm},
			{"all too long", right, f, noughts(4, size+1), need, api.ErrForm},
			{"all of no bytes", right, f, make([][]byte, 4), need, api.ErrForm},
			{"all of the other mode's", right, f, noughts(4, 440+237-size), need, api.ErrForm},
			{"the first too short", right, f, odd(0, size-1), need, api.ErrForm},
			{"the first too long", right, f, odd(0, size+1), need, api.ErrForm},
			{"the last too short", right, f, odd(3, size-1), need, api.ErrForm},
			{"the last too long", right, f, odd(3, size+1), need, api.ErrForm},
			{"one of no bytes", right, f, odd(2, 0), need, api.ErrForm},
			{"no random bytes", right, f, noughts(4, size), 0, api.ErrForm},
			{"a random byte fewer", right, f, noughts(4, size), need - 1, api.ErrForm},
			{"a random byte more", right, f, noughts(4, size), need + 1, api.ErrForm},
			{"neither", right, f, nil, 0, api.ErrForm},
		} {
			if rows, err := c.s.Fresh(c.f, c.rows, make([]byte, c.random)); err != c.err || rows != nil {
				t.Errorf("by %v, %s: %d rows, %d, not %d", c.s, c.what, len(rows), err, c.err)
			}
		}
	}
	for _, s := range wrongShapes() {
		if rows, err := s.Fresh(f, noughts(4, 440), make([]byte, 440)); err != api.ErrRange || rows != nil {
			t.Errorf("by %v: %d rows, %d", s, len(rows), err)
		}
	}
}

// P17.2

// TestRow: that at each place there is a number for, whether there is a member or not.
func TestRow(t *testing.T) {
	r := rand.New(rand.NewSource(6))
	for _, s := range bothModes(1, [2]int{1, 1}, [2]int{1, 3}, [2]int{2, 5}, [2]int{3, 3}, [2]int{7, 20}, [2]int{255, 255}) {
		block, random := some(r, 440), some(r, s.Need())
		all := s
		all.N = 255
		x := gathered(t, s, upTo(s.N), spread(t, s, block, random))
		check(t, "all places", s, x, block, slowRows(all, block, random), nil)
		for _, place := range []int{0, -1, 256, 257, 511, 512, 513, -255, 1 << 32, 1<<32 + 1, math.MaxInt, math.MinInt, math.MinInt + 1} {
			if got := x.Row(place); got != nil {
				t.Errorf("by %v: Row at %d: %d bytes", s, place, len(got))
			}
		}
	}
}

// TestNoughts: what was never written, with a wrong row among it, too.
func TestNoughts(t *testing.T) {
	r := rand.New(rand.NewSource(7))
	for _, s := range slices.Concat(small(1), great(1)) {
		rows := noughts(s.N, s.RowSize())
		check(t, "noughts", s, gathered(t, s, upTo(s.N), rows), make([]byte, 440), rows, nil)
		if s.N-s.T < 2 {
			continue
		}
		place := 1 + r.Intn(s.N)
		spoilt := copied(rows)
		spoilt[place-1][r.Intn(s.RowSize())] = other(r, 0)
		check(t, "noughts, and a wrong row", s, gathered(t, s, upTo(s.N), spoilt), make([]byte, 440), rows, []int{place})
	}
}

// TestFirstByte: of parts, the first byte is 1, or all of them are noughts.
func TestFirstByte(t *testing.T) {
	r := rand.New(rand.NewSource(8))
	for _, s := range []Shape{{Aont, 1, 1, 0}, {Aont, 1, 2, 1}, {Aont, 2, 2, 0}, {Aont, 2, 5, 1}, {Aont, 3, 4, 1}, {Aont, 6, 9, 0}, {Aont, 60, 60, 0}} {
		block := some(r, 440)
		parcel := slowParcel(block, some(r, 32))
		for first := range 256 {
			parcel[0] = byte(first)
			rows := slowPieces(s.N, s.T, parcel)
			x := gathered(t, s, upTo(s.N), rows)
			if first == 1 {
				check(t, "marked", s, x, block, rows, nil)
				continue
			}
			if b, err := x.Block(); err != api.ErrCorrupt || b != nil {
				t.Fatalf("by %v: of the first byte %d: %d bytes, %d", s, first, len(b), err)
			}
			// There are rows all the same.
			if got := x.Row(s.N); !bytes.Equal(got, rows[s.N-1]) || len(x.Wrong()) != 0 {
				t.Fatalf("by %v: of the first byte %d: another row, or wrong ones", s, first)
			}
		}
		// One byte alone that isn't nought.
		for at := range 473 {
			parcel := make([]byte, 473)
			parcel[at] = 2
			x := gathered(t, s, upTo(s.N), slowPieces(s.N, s.T, parcel))
			if b, err := x.Block(); err != api.ErrCorrupt || b != nil {
				t.Fatalf("by %v: of noughts and a byte at %d: %d bytes, %d", s, at, len(b), err)
			}
		}
	}
}

// TestBehindThePackage: what stands there counts for nothing.
func TestBehindThePackage(t *testing.T) {
	r := rand.New(rand.NewSource(9))
	f := field.New()
	for _, s := range []Shape{{Aont, 2, 3, 0}, {Aont, 6, 9, 1}, {Aont, 255, 255, 0}} {
		size := s.RowSize()
		behind := some(r, s.T*size-473)
		block, key := some(r, 440), some(r, 32)
		rows := slowPieces(s.N, s.T, append(slowParcel(block, some(r, 32)), behind...))
		check(t, "bytes behind", s, gathered(t, s, upTo(s.N), rows), block, rows, nil)
		if got, err := s.Fresh(f, rows, key); err != api.OK || !same(got, slowRows(s, block, key)) {
			t.Errorf("by %v: Fresh of bytes behind: %d, or others", s, err)
		}
		rows = slowPieces(s.N, s.T, append(make([]byte, 473), behind...))
		check(t, "noughts, and bytes behind", s, gathered(t, s, upTo(s.N), rows), make([]byte, 440), rows, nil)
		if got, err := s.Fresh(f, rows, key); err != api.OK || !same(got, noughts(s.N, size)) {
			t.Errorf("by %v: Fresh of noughts, and bytes behind: %d, or others", s, err)
		}
	}
}

// TestWrong: the places in the order in which their rows stand.
func TestWrong(t *testing.T) {
	r := rand.New(rand.NewSource(10))
	for _, mode := range []int{Shamir, Aont} {
		s := Shape{mode, 2, 9, 3}
		block := some(r, 440)
		rows := spread(t, s, block, some(r, s.Need()))
		for range 20 {
			places := shuffled(r, upTo(9))[:8]
			given, wrong := picked(rows, places), []int{}
			chosen := r.Perm(8)[:r.Intn(4)]
			slices.Sort(chosen)
			for _, i := range chosen {
				at := r.Intn(s.RowSize())
				given[i][at] = other(r, given[i][at])
				wrong = append(wrong, places[i])
			}
			check(t, "in any order", s, gathered(t, s, places, given), block, rows, wrong)
		}
		// Down from the last place.
		places := []int{9, 8, 7, 6, 5, 4, 3, 2, 1}
		given := picked(rows, places)
		given[1], given[4], given[8] = some(r, s.RowSize()), some(r, s.RowSize()), some(r, s.RowSize())
		check(t, "falling", s, gathered(t, s, places, given), block, rows, []int{8, 5, 1})
	}
}

// TestWrongByColumns: so many wrong ones there may be in each column of rows (chapter 10).
func TestWrongByColumns(t *testing.T) {
	r := rand.New(rand.NewSource(11))
	for _, mode := range []int{Shamir, Aont} {
		s := Shape{mode, 2, 4, 1}
		block := some(r, 440)
		rows := spread(t, s, block, some(r, s.Need()))
		given := copied(rows)
		for i := range given {
			given[i][7*i] = other(r, given[i][7*i])
		}
		check(t, "one in each of four columns", s, gathered(t, s, upTo(4), given), block, rows, upTo(4))
	}
}

// askedWrongly is what can't be gathered.
type askedWrongly struct {
	what   string
	s      Shape
	f      *field.Field
	places []int
	rows   [][]byte
	err    api.Errno
}

// wrongArguments: what can't be gathered by a shape of t = 3 and 5 members.
func wrongArguments(right Shape) []askedWrongly {
	f := field.New()
	size := right.RowSize()
	wrong := right
	wrong.T = 6
	short := func(n int) [][]byte { return append(noughts(n-1, size), make([]byte, size-1)) }
	long := func(n int) [][]byte { return append(noughts(n-1, size), make([]byte, size+1)) }
	repeated := func(n int) []int {
		out := make([]int, n)
		for i := range out {
			out[i] = 1 + i%5
		}
		return out
	}
	odd := noughts(5, size)
	for i := range odd {
		odd[i][0] = byte(i * i * i)
	}
	return []askedWrongly{
		{"no field", right, nil, upTo(5), noughts(5, size), api.ErrArg},
		{"no field, a wrong shape", wrong, nil, upTo(5), noughts(5, size), api.ErrArg},
		{"no field, nothing", right, nil, nil, nil, api.ErrArg},
		{"a row fewer", right, f, upTo(5), noughts(4, size), api.ErrArg},
		{"a row more", right, f, upTo(4), noughts(5, size), api.ErrArg},
		{"no rows", right, f, upTo(3), nil, api.ErrArg},
		{"no places", right, f, nil, noughts(3, size), api.ErrArg},
		{"a row fewer, a wrong shape", wrong, f, upTo(5), noughts(4, size), api.ErrArg},
		{"a row fewer, no such place", right, f, []int{1, 2, 3, 9}, noughts(3, size), api.ErrArg},
		{"a row fewer, one too short", right, f, upTo(5), short(4), api.ErrArg},
		{"a row fewer, too few", right, f, upTo(2), noughts(1, size), api.ErrArg},
		{"a row more, two the same", right, f, []int{1, 1, 2}, noughts(4, size), api.ErrArg},
		{"a row more, a wrong shape", wrong, f, upTo(4), noughts(5, size), api.ErrArg},
		{"a row more, no such place", right, f, []int{1, 2, 3, 9}, noughts(5, size), api.ErrArg},
		{"a row more, one too short", right, f, upTo(4), short(5), api.ErrArg},
		{"a row more, too few", right, f, upTo(1), noughts(2, size), api.ErrArg},
		{"a wrong shape", wrong, f, upTo(5), noughts(5, size), api.ErrRange},
		{"a wrong shape, nothing", wrong, f, nil, nil, api.ErrRange},
		{"no shape", Shape{}, f, nil, nil, api.ErrRange},
		{"a wrong shape, one too short", wrong, f, upTo(5), short(5), api.ErrRange},
		{"the place 0", right, f, []int{0, 1, 2, 3}, noughts(4, size), api.ErrRange},
		{"the place 6", right, f, []int{1, 2, 3, 6}, noughts(4, size), api.ErrRange},
		{"the place -1", right, f, []int{1, -1, 2, 3}, noughts(4, size), api.ErrRange},
		{"the place 256", right, f, []int{1, 2, 3, 256}, noughts(4, size), api.ErrRange},
		{"the place 257", right, f, []int{257, 2, 3}, noughts(3, size), api.ErrRange},
		{"the place -251", right, f, []int{1, 2, -251}, noughts(3, size), api.ErrRange},
		{"the greatest place", right, f, []int{1, 2, 3, math.MaxInt}, noughts(4, size), api.ErrRange},
		{"the least place", right, f, []int{math.MinInt, 2, 3}, noughts(3, size), api.ErrRange},
		{"no such place, one too short", right, f, []int{1, 2, 6}, short(3), api.ErrRange},
		{"no such place, too few", right, f, []int{6}, noughts(1, size), api.ErrRange},
		{"no such place, two the same", right, f, []int{1, 1, 2, 6}, noughts(4, size), api.ErrRange},
		{"no such place, many", right, f, append(repeated(300), 6), noughts(301, size), api.ErrRange},
		{"no such place, behind what is enough, not right", right, f, []int{1, 2, 3, 4, 0}, odd, api.ErrRange},
		{"one too short", right, f, upTo(5), short(5), api.ErrForm},
		{"one too long", right, f, upTo(5), long(5), api.ErrForm},
		{"one of no bytes", right, f, upTo(4), append(noughts(3, size), nil), api.ErrForm},
		{"the first too short", right, f, upTo(4), append([][]byte{make([]byte, size-1)}, noughts(3, size)...), api.ErrForm},
		{"all too short", right, f, upTo(5), noughts(5, size-1), api.ErrForm},
		{"all too long", right, f, upTo(5), noughts(5, size+1), api.ErrForm},
		{"all of no bytes", right, f, upTo(5), make([][]byte, 5), api.ErrForm},
		{"all of the other mode's", right, f, upTo(5), noughts(5, 440+158-size), api.ErrForm},
		{"one too short, too few", right, f, upTo(2), short(2), api.ErrForm},
		{"one too long, two the same", right, f, []int{1, 2, 3, 3}, long(4), api.ErrForm},
		{"one too long, many", right, f, repeated(300), long(300), api.ErrForm},
		{"nothing", right, f, nil, nil, api.ErrDegraded},
		{"empty lists", right, f, []int{}, [][]byte{}, api.ErrDegraded},
		{"one", right, f, []int{4}, noughts(1, size), api.ErrDegraded},
		{"one too few", right, f, []int{5, 1}, noughts(2, size), api.ErrDegraded},
		{"too few, two the same", right, f, []int{2, 2}, noughts(2, size), api.ErrDegraded},
		{"two the same", right, f, []int{2, 3, 2}, noughts(3, size), api.ErrSame},
		{"two the same, enough others", right, f, []int{1, 2, 3, 4, 4}, noughts(5, size), api.ErrSame},
		{"two the same, not right", right, f, []int{1, 2, 3, 4, 1}, odd, api.ErrSame},
		{"one more than there are", right, f, []int{1, 2, 3, 4, 5, 1}, noughts(6, size), api.ErrSame},
		{"all the same", right, f, []int{5, 5, 5}, noughts(3, size), api.ErrSame},
		{"255", right, f, repeated(255), noughts(255, size), api.ErrSame},
		{"256", right, f, repeated(256), noughts(256, size), api.ErrSame},
		{"many", right, f, repeated(3000), noughts(3000, size), api.ErrSame},
		{"not right", right, f, upTo(5), odd, api.ErrCorrupt},
	}
}

func TestGatherOfWrongArguments(t *testing.T) {
	for _, c := range slices.Concat(wrongArguments(Shape{Shamir, 3, 5, 1}), wrongArguments(Shape{Aont, 3, 5, 1})) {
		if x, err := c.s.Gather(c.f, c.places, c.rows); err != c.err || x != nil {
			t.Errorf("by %v, %s: %v, %d, not %d", c.s, c.what, x, err, c.err)
		}
	}
	f := field.New()
	for _, s := range wrongShapes() {
		for _, size := range []int{0, 237, 440} {
			if x, err := s.Gather(f, upTo(4), noughts(4, size)); err != api.ErrRange || x != nil {
				t.Errorf("by %v: %v, %d", s, x, err)
			}
		}
	}
	for _, s := range bothModes(0, [2]int{2, 255}) {
		if x, err := s.Gather(f, append(upTo(255), 255), noughts(256, s.RowSize())); err != api.ErrSame || x != nil {
			t.Errorf("by %v, 256 places: %v, %d", s, x, err)
		}
	}
}

func TestNil(t *testing.T) {
	// One that Gather didn't make has nothing either.
	for _, x := range []*Stripe{nil, {}} {
		if b, err := x.Block(); err != api.ErrArg || b != nil {
			t.Errorf("Block: %d bytes, %d", len(b), err)
		}
		for _, place := range []int{0, 1, 2, 255, 256, math.MinInt, math.MaxInt} {
			if got := x.Row(place); got != nil {
				t.Errorf("Row at %d: %d bytes", place, len(got))
			}
		}
		if got := x.Wrong(); got != nil {
			t.Errorf("Wrong: %v", got)
		}
	}
}

// P17.3

// TestAnyRows: each choice of t or more of up to six, in any order.
func TestAnyRows(t *testing.T) {
	r := rand.New(rand.NewSource(12))
	for _, s := range small(1) {
		block, random := some(r, 440), some(r, s.Need())
		rows := spread(t, s, block, random)
		for m := s.T; m <= s.N; m++ {
			for _, c := range choices(s.N, m) {
				places := shuffled(r, c)
				check(t, "some rows", s, gathered(t, s, places, picked(rows, places)), block, rows, nil)
			}
		}
	}
}

// TestAnyRowsOfMany: of more members, some choices.
func TestAnyRowsOfMany(t *testing.T) {
	r := rand.New(rand.NewSource(13))
	for _, s := range great(127) {
		block := some(r, 440)
		rows := spread(t, s, block, some(r, s.Need()))
		for _, m := range []int{s.T, (s.T + s.N) / 2, s.N} {
			places := shuffled(r, upTo(s.N))[:m]
			check(t, "some of many rows", s, gathered(t, s, places, picked(rows, places)), block, rows, nil)
		}
	}
}

// spoiling is a way in which rows go wrong; of other rows that go together.
type spoiling struct {
	name string
	do   func(r *rand.Rand, i int, row, other []byte)
}

// spoilings: each changes a row; i counts those that are changed.
func spoilings() []spoiling {
	flip := func(r *rand.Rand, row []byte, at int) { row[at] = other(r, row[at]) }
	return []spoiling{
		{"whole rows", func(r *rand.Rand, _ int, row, _ []byte) { copy(row, some(r, len(row))) }},
		{"a byte of each", func(r *rand.Rand, _ int, row, _ []byte) { flip(r, row, r.Intn(len(row))) }},
		{"the first column", func(r *rand.Rand, _ int, row, _ []byte) { flip(r, row, 0) }},
		{"the last column", func(r *rand.Rand, _ int, row, _ []byte) { flip(r, row, len(row)-1) }},
		{"noughts", func(r *rand.Rand, i int, row, _ []byte) { flip(r, row, i%len(row)); clear(row[1:]) }},
		{"rows of another block", func(_ *rand.Rand, _ int, row, other []byte) { copy(row, other) }},
		{"each byte by one", func(_ *rand.Rand, _ int, row, _ []byte) {
			for i := range row {
				row[i] ^= 1
			}
		}},
	}
}

// wrongly: rows at some places, of which n are spoilt, and which places these are.
func wrongly(r *rand.Rand, by spoiling, rows, others [][]byte, places []int, n int) ([][]byte, []int) {
	given, wrong := picked(rows, places), []int{}
	chosen := r.Perm(len(places))[:n]
	slices.Sort(chosen)
	for k, i := range chosen {
		by.do(r, k, given[i], others[places[i]-1])
		// By chance it may be what it was.
		if !bytes.Equal(given[i], rows[places[i]-1]) {
			wrong = append(wrong, places[i])
		}
	}
	return given, wrong
}

// TestMended: with up to c wrong ones, and twice as many at most the rest; with one more.
func TestMended(t *testing.T) {
	f := field.New()
	r := rand.New(rand.NewSource(14))
	told := map[api.Errno]int{}
	for n := 1; n <= 8; n++ {
		for least := 1; least <= n; least++ {
			for c := 0; c <= 4; c++ {
				for _, s := range bothModes(c, [2]int{least, n}) {
					block := some(r, 440)
					rows, others := spread(t, s, block, some(r, s.Need())), spread(t, s, some(r, 440), some(r, s.Need()))
					for _, by := range spoilings() {
						m := least + r.Intn(n-least+1)
						places := shuffled(r, upTo(n))[:m]
						e := min(c, (m-least)/2)
						for wrong := range e + 1 {
							given, want := wrongly(r, by, rows, others, places, wrong)
							check(t, by.name, s, gathered(t, s, places, given), block, rows, want)
						}
						// Where twice as many are all the rest, with one more another block may be nearer (chapter 10).
						if 2*(e+1) > m-least+1 {
							continue
						}
						given, _ := wrongly(r, by, rows, others, places, e+1)
						x, err := s.Gather(f, places, given)
						told[err]++
						if err == api.OK {
							b, err := x.Block()
							if err != api.OK || !bytes.Equal(b, block) {
								t.Fatalf("by %v, %s, %d of %d wrong: another block, %d", s, by.name, e+1, m, err)
							}
						} else if err != api.ErrCorrupt || x != nil {
							t.Fatalf("by %v, %s, %d of %d wrong: %v, %d", s, by.name, e+1, m, x, err)
						}
					}
				}
			}
		}
	}
	if told[api.OK] < 20 || told[api.ErrCorrupt] < 500 {
		t.Errorf("with one more, too few of each kind: %v", told)
	}
}

// TestMendedOfMany: likewise, of many members, up to the greatest c.
func TestMendedOfMany(t *testing.T) {
	f := field.New()
	r := rand.New(rand.NewSource(15))
	for _, s := range []Shape{{Shamir, 1, 255, 127}, {Aont, 1, 255, 127}, {Aont, 2, 255, 127}, {Shamir, 3, 40, 18}, {Aont, 3, 40, 19}, {Shamir, 20, 60, 5}, {Aont, 100, 200, 49}, {Aont, 253, 255, 1}} {
		block := some(r, 440)
		rows, others := spread(t, s, block, some(r, s.Need())), spread(t, s, some(r, 440), some(r, s.Need()))
		places := shuffled(r, upTo(s.N))
		e := min(s.C, (s.N-s.T)/2)
		for _, by := range spoilings()[:2] {
			given, want := wrongly(r, by, rows, others, places, e)
			check(t, by.name, s, gathered(t, s, places, given), block, rows, want)
		}
		if 2*(e+1) > s.N-s.T+1 {
			continue
		}
		given, _ := wrongly(r, spoilings()[0], rows, others, places, e+1)
		if x, err := s.Gather(f, places, given); err != api.ErrCorrupt || x != nil {
			t.Errorf("by %v, %d wrong: %v, %d", s, e+1, x, err)
		}
	}
}

// TestCheckCounts: how many may be mended is the shape's c, whatever more could be.
func TestCheckCounts(t *testing.T) {
	f := field.New()
	r := rand.New(rand.NewSource(16))
	for _, mode := range []int{Shamir, Aont} {
		for wrong := range 5 {
			for c := range 6 {
				s := Shape{mode, 2, 10, c}
				block := some(r, 440)
				rows := spread(t, s, block, some(r, s.Need()))
				given, want := wrongly(r, spoilings()[2], rows, rows, upTo(10), wrong)
				if wrong <= c {
					check(t, "up to c", s, gathered(t, s, upTo(10), given), block, rows, want)
				} else if x, err := s.Gather(f, upTo(10), given); err != api.ErrCorrupt || x != nil {
					t.Errorf("by %v, %d wrong: %v, %d", s, wrong, x, err)
				}
			}
		}
	}
}

// TestFreshTells: over and over, any t of what is fresh tell the same block, and no row is as it was.
func TestFreshTells(t *testing.T) {
	f := field.New()
	r := rand.New(rand.NewSource(17))
	for _, s := range slices.Concat(small(0), bothModes(1, [2]int{3, 9}, [2]int{254, 254}, [2]int{2, 255})) {
		for _, block := range [][]byte{some(r, 440), make([]byte, 440)} {
			rows := spread(t, s, block, some(r, s.Need()))
			for range 3 {
				fresh, err := s.Fresh(f, rows, some(r, s.Need()))
				if err != api.OK {
					t.Fatalf("Fresh by %v: %d", s, err)
				}
				places := shuffled(r, upTo(s.N))[:s.T]
				check(t, "fresh", s, gathered(t, s, places, picked(fresh, places)), block, fresh, nil)
				// Rows of few bytes may be the same by chance.
				for i := range rows {
					if s.Need() > 0 && s.RowSize() > 20 && bytes.Equal(fresh[i], rows[i]) {
						t.Fatalf("by %v: the row %d is as it was", s, i+1)
					}
				}
				rows = fresh
			}
		}
	}
}

// roomy: the same bytes, with room behind them, that is filled too.
func roomy(b []byte) []byte {
	return slices.Concat(b, bytes.Repeat([]byte{77}, 50))[:len(b)]
}

// roomyRows: the same rows, with room behind each one and behind them all.
func roomyRows(rows [][]byte) [][]byte {
	out := [][]byte{}
	for _, row := range rows {
		out = append(out, roomy(row))
	}
	return append(out, roomy([]byte{1, 2, 3}))[:len(rows)]
}

// full: rows with all that stands in their room.
func full(rows [][]byte) [][]byte {
	out := [][]byte{}
	for _, row := range rows[:cap(rows)] {
		out = append(out, slices.Clone(row[:cap(row)]))
	}
	return out
}

// spoil: all that rows have, their room as well.
func spoil(rows [][]byte) {
	for _, row := range rows {
		row = row[:cap(row)]
		for i := range row {
			row[i] ^= 255
		}
	}
}

// apart: does no row share memory with another one?
func apart(t *testing.T, what string, rows [][]byte) {
	t.Helper()
	for i, row := range rows {
		others := copied(rows)
		spoil(rows[i : i+1])
		for j := range rows {
			if j != i && !bytes.Equal(rows[j], others[j]) {
				t.Fatalf("%s: the rows %d and %d share memory", what, i, j)
			}
		}
		copy(row, others[i])
	}
}

// TestMemoryOfRows: what is handed in to Spread and to Fresh stays as it is, and nothing that they answer shares it.
func TestMemoryOfRows(t *testing.T) {
	f := field.New()
	r := rand.New(rand.NewSource(18))
	for _, s := range bothModes(1, [2]int{1, 1}, [2]int{1, 3}, [2]int{2, 2}, [2]int{2, 5}, [2]int{4, 6}) {
		block, random := roomy(some(r, 440)), roomy(some(r, s.Need()))
		before := full([][]byte{block, random})
		rows, err := s.Spread(f, block, random)
		if err != api.OK || !same(full([][]byte{block, random}), before) {
			t.Fatalf("by %v: Spread changes what it is given, or %d", s, err)
		}
		want := copied(rows)
		spoil([][]byte{block, random})
		if !same(rows, want) {
			t.Fatalf("by %v: Spread's rows share memory with what it was given", s)
		}
		spoil([][]byte{block, random})
		apart(t, "Spread", rows)
		spoil(rows)
		if !same(full([][]byte{block, random}), before) || !same(spread(t, s, block, random), want) {
			t.Fatalf("by %v: Spread's rows share memory with what it was given, or with others", s)
		}
		for _, old := range [][][]byte{want, noughts(s.N, s.RowSize())} {
			given := roomyRows(old)
			all := full(given)
			fresh, err := s.Fresh(f, given, random)
			if err != api.OK || !same(full(given), all) || !same(full([][]byte{block, random}), before) {
				t.Fatalf("by %v: Fresh changes what it is given, or %d", s, err)
			}
			kept := copied(fresh)
			spoil(given)
			spoil([][]byte{random})
			if !same(fresh, kept) {
				t.Fatalf("by %v: Fresh's rows share memory with what it was given", s)
			}
			spoil(given)
			spoil([][]byte{random})
			apart(t, "Fresh", fresh)
			spoil(fresh)
			if again, err := s.Fresh(f, given, random); err != api.OK || !same(full(given), all) || !same(again, kept) {
				t.Fatalf("by %v: Fresh's rows share memory with what it was given, or with others", s)
			}
		}
	}
}

// TestMemoryOfStripes: what is handed in to Gather is neither changed nor kept, and what a stripe answers is nobody else's.
func TestMemoryOfStripes(t *testing.T) {
	r := rand.New(rand.NewSource(19))
	for _, s := range bothModes(1, [2]int{1, 1}, [2]int{1, 3}, [2]int{2, 5}, [2]int{4, 6}) {
		block := some(r, 440)
		rows := spread(t, s, block, some(r, s.Need()))
		places := append(upTo(s.N), 7, 8)[:s.N]
		given, wrong := roomyRows(rows), []int{}
		if s.N-s.T >= 2 {
			given[1][3] = other(r, given[1][3])
			wrong = []int{2}
		}
		all := full(given)
		f := field.New()
		x, err := s.Gather(f, places, given)
		if err != api.OK || !same(full(given), all) || !slices.Equal(places[:s.N+2], append(upTo(s.N), 7, 8)) || *f != *field.New() {
			t.Fatalf("by %v: Gather changes what it is given, or %d", s, err)
		}
		spoil(given)
		clear(places)
		clear(given)
		*f = field.Field{}
		check(t, "what was given is gone", s, x, block, rows, wrong)
		b, _ := x.Block()
		again, _ := x.Block()
		row, twin := x.Row(1), x.Row(1)
		told := x.Wrong()
		spoil([][]byte{b, row})
		clear(told[:cap(told)])
		if !bytes.Equal(again, block) || !bytes.Equal(twin, rows[0]) {
			t.Fatalf("by %v: answers share memory with one another", s)
		}
		check(t, "what was answered is changed", s, x, block, rows, wrong)
	}
}

// TestStripesApart: of what is gathered later a stripe tells nothing.
func TestStripesApart(t *testing.T) {
	r := rand.New(rand.NewSource(20))
	s := Shape{Aont, 2, 4, 1}
	blocks := [][]byte{some(r, 440), some(r, 440), make([]byte, 440)}
	rows, stripes := [][][]byte{}, []*Stripe{}
	for _, block := range blocks {
		rows = append(rows, spread(t, s, block, some(r, 32)))
		stripes = append(stripes, gathered(t, s, upTo(4), rows[len(rows)-1]))
	}
	for i, x := range stripes {
		check(t, "among others", s, x, blocks[i], rows[i], nil)
	}
}
