package shamir

import (
	"bytes"
	"math"
	"math/rand"
	"slices"
	"testing"

	"largesse/api"
	"largesse/field"
	"largesse/poly"
)

// some: n numbers, the same ones each time the source is.
func some(r *rand.Rand, n int) []byte {
	out := make([]byte, n)
	for i := range out {
		out[i] = byte(r.Intn(256))
	}
	return out
}

// places: n of 1 to 255, no two the same.
func places(r *rand.Rand, n int) []byte {
	out := make([]byte, n)
	for i, x := range r.Perm(255)[:n] {
		out[i] = byte(x + 1)
	}
	return out
}

// slowValue: power by power, by none of the program's own ways but Slow.
func slowValue(p []byte, x byte) byte {
	out, power := byte(0), byte(1)
	for _, c := range p {
		out ^= field.Slow(c, power)
		power = field.Slow(power, x)
	}
	return out
}

// share: byte by byte, the first number the secret's, the others out of the mask.
func share(t int, secret, mask []byte, x byte) []byte {
	out := []byte{}
	for i, s := range secret {
		p := []byte{s}
		for k := range t - 1 {
			p = append(p, mask[k*len(secret)+i])
		}
		out = append(out, slowValue(p, x))
	}
	return out
}

// same: lists of the same rows.
func same(a, b [][]byte) bool { return slices.EqualFunc(a, b, bytes.Equal) }

// dealings: of thresholds and sizes at their ends, and between them.
func dealings(r *rand.Rand, see func(t int, secret, mask []byte)) {
	for _, t := range []int{1, 2, 3, 4, 7, 64, 254, 255} {
		for _, size := range []int{0, 1, 2, 5, 33} {
			see(t, some(r, size), some(r, (t-1)*size))
			see(t, make([]byte, size), some(r, (t-1)*size))
			see(t, some(r, size), make([]byte, (t-1)*size))
		}
	}
}

// choices: of n, each choice of k, rising.
func choices(n, k int) [][]int {
	out := [][]int{}
	for x := range 1 << n {
		chosen := []int{}
		for i := range n {
			if x>>i&1 == 1 {
				chosen = append(chosen, i)
			}
		}
		if len(chosen) == k {
			out = append(out, chosen)
		}
	}
	return out
}

// picked: those at these places of the lists.
func picked(xs []byte, shares [][]byte, at []int) ([]byte, [][]byte) {
	x, s := []byte{}, [][]byte{}
	for _, i := range at {
		x, s = append(x, xs[i]), append(s, shares[i])
	}
	return x, s
}

// split: of what can be split.
func split(t *testing.T, f *field.Field, threshold int, secret, mask, xs []byte) [][]byte {
	t.Helper()
	shares, err := Split(f, threshold, secret, mask, xs)
	if err != api.OK || len(shares) != len(xs) {
		t.Fatalf("Split, t = %d, %d bytes, at %v: %v, %d", threshold, len(secret), xs, shares, err)
	}
	return shares
}

// P8.1

func TestMaskSize(t *testing.T) {
	for _, c := range []struct{ t, size, want int }{
		{1, 0, 0}, {1, 1, 0}, {1, 440, 0}, {2, 0, 0}, {2, 1, 1}, {2, 440, 440}, {3, 440, 880}, {5, 7, 28},
		{254, 440, 253 * 440}, {255, 440, 254 * 440}, {255, 0, 0}, {255, 1, 254},
		{0, 440, 0}, {-1, 440, 0}, {256, 440, 0}, {257, 440, 0}, {math.MinInt, 440, 0}, {math.MaxInt, 440, 0},
		{3, -1, 0}, {255, -440, 0}, {3, math.MinInt, 0}, {2, math.MinInt, 0}, {0, -1, 0}, {-1, -1, 0}, {-3, -7, 0},
		{math.MinInt, math.MinInt, 0}, {math.MaxInt, math.MaxInt, 0}, {0, math.MaxInt, 0}, {256, math.MaxInt, 0},
		// Numbers at their ends that there still are, and those that would be above all.
		{1, math.MaxInt, 0}, {2, math.MaxInt, math.MaxInt}, {3, math.MaxInt / 2, math.MaxInt - 1},
		{3, math.MaxInt, 0}, {5, math.MaxInt/4 + 1, 0}, {255, math.MaxInt, 0}, {255, math.MaxInt / 254, math.MaxInt / 254 * 254},
	} {
		if got := MaskSize(c.t, c.size); got != c.want {
			t.Errorf("MaskSize of %d, %d: %d, not %d", c.t, c.size, got, c.want)
		}
	}
}

func TestByKnownNumbers(t *testing.T) {
	f := field.New()
	for _, c := range []struct {
		t            int
		secret, mask []byte
		x            byte
		want         []byte
	}{
		{2, []byte{5}, []byte{3}, 1, []byte{6}},
		{2, []byte{5}, []byte{3}, 2, []byte{3}},
		{1, []byte{5, 6}, nil, 1, []byte{5, 6}},
		{1, []byte{5, 6}, []byte{}, 255, []byte{5, 6}},
		{1, nil, nil, 1, nil},
		{3, nil, nil, 77, nil},
		{255, []byte{}, nil, 255, nil},
		// At 1 a share is the sum of all rows.
		{3, []byte{1, 2}, []byte{4, 8, 16, 32}, 1, []byte{1 ^ 4 ^ 16, 2 ^ 8 ^ 32}},
		// At 2 the rows of the mask, one behind the other, are times 2 and times 4.
		{3, []byte{1, 2}, []byte{4, 8, 16, 32}, 2, []byte{1 ^ 8 ^ 64, 2 ^ 16 ^ 128}},
		{2, []byte{0}, []byte{87}, 131, []byte{193}},
		{2, []byte{9, 0, 1}, []byte{0, 1, 0}, 255, []byte{9, 255, 1}},
	} {
		if got, err := Share(f, c.t, c.secret, c.mask, c.x); err != api.OK || !bytes.Equal(got, c.want) {
			t.Errorf("Share of %v, %v at %d: %v, %d, not %v", c.secret, c.mask, c.x, got, err, c.want)
		}
	}
}

func TestShareAndSplit(t *testing.T) {
	f := field.New()
	r := rand.New(rand.NewSource(1))
	dealings(r, func(threshold int, secret, mask []byte) {
		for _, n := range []int{0, 1, 2, 5} {
			xs := places(r, n)
			shares := split(t, f, threshold, secret, mask, xs)
			for i, x := range xs {
				want := share(threshold, secret, mask, x)
				if !bytes.Equal(shares[i], want) {
					t.Fatalf("Split, t = %d, of %v, %v at %d: %v, not %v", threshold, secret, mask, x, shares[i], want)
				}
				if got, err := Share(f, threshold, secret, mask, x); err != api.OK || !bytes.Equal(got, want) {
					t.Fatalf("Share, t = %d, of %v, %v at %d: %v, %d, not %v", threshold, secret, mask, x, got, err, want)
				}
			}
		}
	})
}

// TestEachPlace: all that there are at once, the same ones again, and in any order.
func TestEachPlace(t *testing.T) {
	f := field.New()
	r := rand.New(rand.NewSource(2))
	for _, threshold := range []int{1, 2, 5, 255} {
		secret, mask := some(r, 6), some(r, (threshold-1)*6)
		xs := slices.Concat(places(r, 255), places(r, 255), []byte{9, 9, 9})
		for i, got := range split(t, f, threshold, secret, mask, xs) {
			if want := share(threshold, secret, mask, xs[i]); !bytes.Equal(got, want) {
				t.Fatalf("Split, t = %d, at %d: %v, not %v", threshold, xs[i], got, want)
			}
		}
	}
}

// TestOfAFullBlock: of the size that an array's blocks have.
func TestOfAFullBlock(t *testing.T) {
	f := field.New()
	r := rand.New(rand.NewSource(3))
	secret, mask, xs := some(r, api.BlockSize), some(r, MaskSize(4, api.BlockSize)), places(r, 6)
	for i, got := range split(t, f, 4, secret, mask, xs) {
		if want := share(4, secret, mask, xs[i]); !bytes.Equal(got, want) {
			t.Errorf("Split at %d: %v, not %v", xs[i], got, want)
		}
	}
}

func TestWrongDealings(t *testing.T) {
	f := field.New()
	for _, c := range []struct {
		what         string
		f            *field.Field
		t            int
		secret, mask []byte
		xs           []byte
		err          api.Errno
	}{
		{"no field", nil, 2, []byte{5}, []byte{3}, []byte{1}, api.ErrArg},
		{"no field, nor a threshold", nil, 0, []byte{5}, []byte{3}, []byte{1}, api.ErrArg},
		{"no field, nor a place", nil, 2, []byte{5}, []byte{3}, []byte{0}, api.ErrArg},
		{"no field, nor a mask", nil, 2, []byte{5}, nil, []byte{1}, api.ErrArg},
		{"t is 0", f, 0, []byte{5}, nil, []byte{1}, api.ErrRange},
		{"t is -1", f, -1, []byte{5}, nil, []byte{1}, api.ErrRange},
		{"t is 256", f, 256, []byte{5}, make([]byte, 255), []byte{1}, api.ErrRange},
		{"t is 257", f, 257, []byte{5}, nil, []byte{1}, api.ErrRange},
		{"t is the least number", f, math.MinInt, []byte{5}, nil, []byte{1}, api.ErrRange},
		{"t is the greatest number", f, math.MaxInt, []byte{5}, nil, []byte{1}, api.ErrRange},
		{"t is 0, and nothing is there", f, 0, nil, nil, []byte{1}, api.ErrRange},
		{"the place 0", f, 2, []byte{5}, []byte{3}, []byte{0}, api.ErrRange},
		{"the place 0, with t = 1", f, 1, []byte{5}, nil, []byte{0}, api.ErrRange},
		{"the place 0, and no mask", f, 2, []byte{5}, nil, []byte{0}, api.ErrRange},
		{"no mask", f, 2, []byte{5}, nil, []byte{1}, api.ErrForm},
		{"a mask, with t = 1", f, 1, []byte{5}, []byte{3}, []byte{1}, api.ErrForm},
		{"a mask of nothing", f, 2, nil, []byte{3}, []byte{1}, api.ErrForm},
		{"a byte more", f, 2, []byte{5}, []byte{3, 4}, []byte{1}, api.ErrForm},
		{"a byte less", f, 3, []byte{5, 6}, []byte{1, 2, 3}, []byte{1}, api.ErrForm},
		{"a row more", f, 3, []byte{5, 6}, []byte{1, 2, 3, 4, 5, 6}, []byte{1}, api.ErrForm},
		{"a row less", f, 3, []byte{5, 6}, []byte{1, 2}, []byte{1}, api.ErrForm},
		{"the greatest t, a byte less", f, 255, []byte{5}, make([]byte, 253), []byte{1}, api.ErrForm},
	} {
		if got, err := Share(c.f, c.t, c.secret, c.mask, c.xs[0]); err != c.err || len(got) != 0 {
			t.Errorf("Share, %s: %v, %d, not %d", c.what, got, err, c.err)
		}
		// Other places beside it make nothing right.
		for _, xs := range [][]byte{c.xs, append([]byte{7, 8}, c.xs...), append(slices.Clone(c.xs), 255)} {
			if got, err := Split(c.f, c.t, c.secret, c.mask, xs); err != c.err || len(got) != 0 {
				t.Errorf("Split, %s, at %v: %v, %d, not %d", c.what, xs, got, err, c.err)
			}
			if c.secret == nil {
				continue
			}
			if got, err := Delta(c.f, c.t, c.mask, xs, len(c.secret)); err != c.err || len(got) != 0 {
				t.Errorf("Delta, %s, at %v: %v, %d, not %d", c.what, xs, got, err, c.err)
			}
		}
		// Nor does none, unless the place itself is what is wrong.
		if c.xs[0] == 0 {
			continue
		}
		if got, err := Split(c.f, c.t, c.secret, c.mask, nil); err != c.err || len(got) != 0 {
			t.Errorf("Split, %s, at no place: %v, %d, not %d", c.what, got, err, c.err)
		}
		if got, err := Delta(c.f, c.t, c.mask, nil, len(c.secret)); err != c.err || len(got) != 0 {
			t.Errorf("Delta, %s, at no place: %v, %d, not %d", c.what, got, err, c.err)
		}
	}
}

// TestSplitAtNoPlace: nothing is asked for, and nothing is wrong.
func TestSplitAtNoPlace(t *testing.T) {
	f := field.New()
	for _, xs := range [][]byte{nil, {}} {
		if got, err := Split(f, 2, []byte{5}, []byte{3}, xs); err != api.OK || len(got) != 0 {
			t.Errorf("Split: %v, %d", got, err)
		}
		if got, err := Delta(f, 2, []byte{3}, xs, 1); err != api.OK || len(got) != 0 {
			t.Errorf("Delta: %v, %d", got, err)
		}
	}
}

func TestDelta(t *testing.T) {
	f := field.New()
	r := rand.New(rand.NewSource(4))
	dealings(r, func(threshold int, secret, mask []byte) {
		xs := places(r, 5)
		got, err := Delta(f, threshold, mask, xs, len(secret))
		want := [][]byte{}
		for _, x := range xs {
			want = append(want, share(threshold, make([]byte, len(secret)), mask, x))
		}
		if err != api.OK || !same(got, want) {
			t.Fatalf("Delta, t = %d, of %v at %v: %v, %d, not %v", threshold, mask, xs, got, err, want)
		}
	})
	if got, err := Delta(f, 2, []byte{3, 1}, []byte{1, 2}, 2); err != api.OK || !same(got, [][]byte{{3, 1}, {6, 2}}) {
		t.Errorf("Delta of 3, 1 at 1 and 2: %v, %d", got, err)
	}
}

func TestDeltaOfAnySize(t *testing.T) {
	f := field.New()
	for _, c := range []struct {
		what string
		f    *field.Field
		t    int
		mask []byte
		xs   []byte
		size int
		err  api.Errno
	}{
		{"below 0", f, 1, nil, []byte{1}, -1, api.ErrRange},
		{"below 0, with t = 2", f, 2, nil, []byte{1}, -1, api.ErrRange},
		{"below 0, with a mask", f, 2, []byte{3}, []byte{1}, -1, api.ErrRange},
		{"below 0, at no place", f, 2, nil, nil, -1, api.ErrRange},
		{"the least number", f, 2, nil, []byte{1}, math.MinInt, api.ErrRange},
		{"the least number, with t = 255", f, 255, nil, []byte{1}, math.MinInt, api.ErrRange},
		{"below 0, of no field", nil, 2, nil, []byte{1}, -1, api.ErrArg},
		{"another one than the mask's", f, 2, []byte{3}, []byte{1}, 2, api.ErrForm},
		{"another one than the mask's, at no place", f, 2, []byte{3}, nil, 2, api.ErrForm},
		{"the greatest number", f, 2, nil, []byte{1}, math.MaxInt, api.ErrForm},
		{"the greatest number, at no place", f, 3, nil, nil, math.MaxInt, api.ErrForm},
		// Such a product, cut down to a number, would be 0.
		{"four times it is 2^64", f, 5, nil, []byte{1}, 1 << 62, api.ErrForm},
		{"four times it is 2^64, at no place", f, 5, nil, nil, 1 << 62, api.ErrForm},
		{"the greatest number, of no mask, at no place", f, 1, nil, nil, math.MaxInt, api.OK},
		// More than can be told: not promised, but it ends without a panic.
		{"the greatest number, of no mask", f, 1, nil, []byte{1}, math.MaxInt, api.ErrRange},
		{"above the bound, of no mask", f, 1, nil, []byte{1}, math.MaxInt32 + 1, api.ErrRange},
		{"above the bound by three shares", f, 1, nil, []byte{1, 2, 3}, math.MaxInt32/3 + 1, api.ErrRange},
	} {
		if got, err := Delta(c.f, c.t, c.mask, c.xs, c.size); err != c.err || len(got) != 0 {
			t.Errorf("Delta, %s: %d shares, %d, not %d", c.what, len(got), err, c.err)
		}
	}
}

// P8.2

// TestAt: of polynomials told by numbers, at all places.
func TestAt(t *testing.T) {
	f := field.New()
	r := rand.New(rand.NewSource(5))
	for _, n := range []int{1, 2, 3, 4, 5, 20, 254, 255} {
		for _, size := range []int{0, 1, 4} {
			columns := make([][]byte, size)
			for i := range columns {
				columns[i] = some(r, n)
			}
			row := func(x byte) []byte {
				out := []byte{}
				for _, p := range columns {
					out = append(out, slowValue(p, x))
				}
				return out
			}
			// 0 may be one of the places here.
			xs, shares := make([]byte, n), make([][]byte, n)
			for i, x := range r.Perm(256)[:n] {
				xs[i], shares[i] = byte(x), row(byte(x))
			}
			for x := 0; x < 256; x += 1 + n/10 {
				if got, err := At(f, xs, shares, byte(x)); err != api.OK || !bytes.Equal(got, row(byte(x))) {
					t.Fatalf("At, of %d places, at %d: %v, %d, not %v", n, x, got, err, row(byte(x)))
				}
			}
			if got, err := Join(f, xs, shares); err != api.OK || !bytes.Equal(got, row(0)) {
				t.Fatalf("Join, of %d places: %v, %d, not %v", n, got, err, row(0))
			}
		}
	}
}

func TestAtByKnownNumbers(t *testing.T) {
	f := field.New()
	for _, c := range []struct {
		xs     []byte
		shares [][]byte
		x      byte
		want   []byte
	}{
		{[]byte{1, 2}, [][]byte{{6}, {3}}, 0, []byte{5}},
		{[]byte{2, 1}, [][]byte{{3}, {6}}, 0, []byte{5}},
		{[]byte{1, 2}, [][]byte{{6}, {3}}, 1, []byte{6}},
		{[]byte{1, 2}, [][]byte{{6}, {3}}, 2, []byte{3}},
		{[]byte{1, 2}, [][]byte{{6}, {3}}, 3, []byte{0}},
		{[]byte{0, 2}, [][]byte{{5}, {3}}, 1, []byte{6}},
		{[]byte{0, 1}, [][]byte{{5}, {6}}, 0, []byte{5}},
		{[]byte{77}, [][]byte{{1, 2, 3}}, 0, []byte{1, 2, 3}},
		{[]byte{77}, [][]byte{{1, 2, 3}}, 200, []byte{1, 2, 3}},
		{[]byte{1, 2, 3}, [][]byte{{9}, {9}, {9}}, 4, []byte{9}},
		{[]byte{1, 2}, [][]byte{nil, {}}, 4, nil},
	} {
		if got, err := At(f, c.xs, c.shares, c.x); err != api.OK || !bytes.Equal(got, c.want) {
			t.Errorf("At of %v, %v at %d: %v, %d, not %v", c.xs, c.shares, c.x, got, err, c.want)
		}
	}
}

// rows: n shares of a byte each.
func rows(n int) [][]byte {
	out := make([][]byte, n)
	for i := range out {
		out[i] = []byte{byte(i)}
	}
	return out
}

func TestWrongShares(t *testing.T) {
	f := field.New()
	all := make([]byte, 256)
	for i := range all {
		all[i] = byte(i)
	}
	ragged := append(rows(255), []byte{1, 2})
	for _, c := range []struct {
		what   string
		f      *field.Field
		xs     []byte
		shares [][]byte
		err    api.Errno
	}{
		{"no field", nil, []byte{1, 2}, rows(2), api.ErrArg},
		{"no field, and nothing", nil, nil, nil, api.ErrArg},
		{"no field, unlike lengths", nil, []byte{1, 2}, [][]byte{{1}, {1, 2}}, api.ErrArg},
		{"no field, the same places", nil, []byte{1, 1}, rows(2), api.ErrArg},
		{"a share less", f, []byte{1, 2}, rows(1), api.ErrArg},
		{"a share more", f, []byte{1, 2}, rows(3), api.ErrArg},
		{"no shares", f, []byte{1}, nil, api.ErrArg},
		{"no places", f, nil, rows(1), api.ErrArg},
		{"a share more, unlike lengths", f, []byte{1}, [][]byte{{1}, {1, 2}}, api.ErrArg},
		{"a share less, the same places", f, []byte{1, 1}, rows(1), api.ErrArg},
		{"the last is longer", f, []byte{1, 2, 3}, [][]byte{{1}, {2}, {3, 4}}, api.ErrForm},
		{"the last is shorter", f, []byte{1, 2}, [][]byte{{1, 2}, {3}}, api.ErrForm},
		{"the first is empty", f, []byte{1, 2}, [][]byte{nil, {3}}, api.ErrForm},
		{"the last is empty", f, []byte{1, 2}, [][]byte{{3}, {}}, api.ErrForm},
		{"unlike lengths, the same places", f, []byte{1, 1}, [][]byte{{1}, {1, 2}}, api.ErrForm},
		{"unlike lengths, too many", f, all, ragged, api.ErrForm},
		{"nothing", f, nil, nil, api.ErrFew},
		{"empty lists", f, []byte{}, [][]byte{}, api.ErrFew},
		{"too many", f, all, rows(256), api.ErrLong},
		{"too many, the same places", f, make([]byte, 300), rows(300), api.ErrLong},
		{"the same places", f, []byte{1, 1}, rows(2), api.ErrSame},
		{"the same places and shares", f, []byte{4, 7, 4}, [][]byte{{1}, {2}, {1}}, api.ErrSame},
		{"noughts twice", f, []byte{0, 0}, rows(2), api.ErrSame},
		{"the same places, empty shares", f, []byte{3, 3}, [][]byte{nil, nil}, api.ErrSame},
	} {
		if got, err := Join(c.f, c.xs, c.shares); err != c.err || len(got) != 0 {
			t.Errorf("Join, %s: %v, %d, not %d", c.what, got, err, c.err)
		}
		for _, x := range []byte{0, 1, 255} {
			if got, err := At(c.f, c.xs, c.shares, x); err != c.err || len(got) != 0 {
				t.Errorf("At %d, %s: %v, %d, not %d", x, c.what, got, err, c.err)
			}
		}
	}
}

func TestAdd(t *testing.T) {
	for _, c := range []struct {
		what       string
		a, b, want [][]byte
		err        api.Errno
	}{
		{"nothing", nil, nil, nil, api.OK},
		{"empty lists", [][]byte{}, nil, nil, api.OK},
		{"empty shares", [][]byte{nil, {}}, [][]byte{{}, nil}, [][]byte{{}, {}}, api.OK},
		{"one byte", [][]byte{{12}}, [][]byte{{10}}, [][]byte{{6}}, api.OK},
		{"bytes", [][]byte{{1, 2}, {3, 255}, {0, 9}}, [][]byte{{1, 1}, {4, 1}, {7, 0}}, [][]byte{{0, 3}, {7, 254}, {7, 9}}, api.OK},
		{"one less", [][]byte{{1}, {2}}, [][]byte{{1}}, nil, api.ErrArg},
		{"one more", [][]byte{{1}}, [][]byte{{1}, {2}}, nil, api.ErrArg},
		{"none", [][]byte{{1}}, nil, nil, api.ErrArg},
		{"none to add to", nil, [][]byte{{1}}, nil, api.ErrArg},
		{"one more, and unlike lengths", [][]byte{{1, 2}}, [][]byte{{1}, {2}}, nil, api.ErrArg},
		{"the first is shorter", [][]byte{{1, 2}, {1}}, [][]byte{{1}, {1}}, nil, api.ErrForm},
		{"the last is longer", [][]byte{{1}, {1}}, [][]byte{{1}, {1, 2}}, nil, api.ErrForm},
		{"one is empty", [][]byte{{1}, {1}}, [][]byte{{1}, nil}, nil, api.ErrForm},
		{"all are longer", [][]byte{{1}, {1}}, [][]byte{{1, 2}, {1, 2}}, nil, api.ErrForm},
	} {
		got, err := Add(c.a, c.b)
		if err != c.err || !same(got, c.want) {
			t.Errorf("Add, %s: %v, %d, not %v, %d", c.what, got, err, c.want, c.err)
		}
	}
	many, err := Add(rows(300), rows(300))
	if err != api.OK || !same(many, slices.Repeat([][]byte{{0}}, 300)) {
		t.Errorf("Add of 300 shares: %v, %d", many, err)
	}
}

// P8.3

// TestAnyEnough: each choice of t shares, and of more, joins to the secret, and tells each other share.
func TestAnyEnough(t *testing.T) {
	f := field.New()
	r := rand.New(rand.NewSource(6))
	const n = 6
	for threshold := 1; threshold <= n; threshold++ {
		secret, mask, xs := some(r, 3), some(r, (threshold-1)*3), places(r, n)
		shares := split(t, f, threshold, secret, mask, xs)
		for k := threshold; k <= n; k++ {
			for _, at := range choices(n, k) {
				x, s := picked(xs, shares, at)
				if got, err := Join(f, x, s); err != api.OK || !bytes.Equal(got, secret) {
					t.Fatalf("t = %d, Join of %v: %v, %d, not %v", threshold, x, got, err, secret)
				}
				for i, other := range xs {
					if got, err := At(f, x, s, other); err != api.OK || !bytes.Equal(got, shares[i]) {
						t.Fatalf("t = %d, At of %v at %d: %v, %d, not %v", threshold, x, other, got, err, shares[i])
					}
				}
			}
		}
	}
}

func TestAnyEnoughOfMany(t *testing.T) {
	f := field.New()
	r := rand.New(rand.NewSource(7))
	for _, threshold := range []int{1, 2, 100, 254, 255} {
		secret, mask, xs := some(r, 2), some(r, (threshold-1)*2), places(r, 255)
		shares := split(t, f, threshold, secret, mask, xs)
		for k := threshold; k <= 255; k += 1 + (255-threshold)/4 {
			x, s := picked(xs, shares, r.Perm(255)[:k])
			if got, err := Join(f, x, s); err != api.OK || !bytes.Equal(got, secret) {
				t.Fatalf("t = %d, Join of %d: %v, %d, not %v", threshold, k, got, err, secret)
			}
			if got, err := At(f, x, s, xs[9]); err != api.OK || !bytes.Equal(got, shares[9]) {
				t.Fatalf("t = %d, At of %d: %v, %d, not %v", threshold, k, got, err, shares[9])
			}
		}
	}
}

// TestWithADelta: shares are others, and join to the same; one that is left out joins to something else.
func TestWithADelta(t *testing.T) {
	f := field.New()
	r := rand.New(rand.NewSource(8))
	for _, threshold := range []int{1, 2, 3, 5} {
		const n = 5
		secret, mask, xs := some(r, 8), some(r, (threshold-1)*8), places(r, n)
		old := split(t, f, threshold, secret, mask, xs)
		delta, err := Delta(f, threshold, some(r, (threshold-1)*8), xs, 8)
		if err != api.OK {
			t.Fatal(err)
		}
		fresh, err := Add(old, delta)
		if err != api.OK || same(fresh, old) != (threshold == 1) {
			t.Fatalf("t = %d, Add: %v of %v, %d", threshold, fresh, old, err)
		}
		for _, at := range choices(n, threshold) {
			x, s := picked(xs, fresh, at)
			if got, err := Join(f, x, s); err != api.OK || !bytes.Equal(got, secret) {
				t.Fatalf("t = %d, Join of %v, with a delta: %v, %d, not %v", threshold, x, got, err, secret)
			}
			if threshold == 1 {
				continue
			}
			s[0] = old[at[0]]
			if got, err := Join(f, x, s); err != api.OK || bytes.Equal(got, secret) {
				t.Fatalf("t = %d, Join of %v, one without the delta: %v, %d", threshold, x, got, err)
			}
		}
	}
}

// TestOneMask: with t = 2, of one share and any other secret there is just one mask.
func TestOneMask(t *testing.T) {
	f := field.New()
	for _, x := range []byte{1, 2, 3, 87, 255} {
		for _, seen := range []byte{0, 1, 200} {
			for secret := range 256 {
				masks := 0
				for mask := range 256 {
					if got, _ := Share(f, 2, []byte{byte(secret)}, []byte{byte(mask)}, x); got[0] == seen {
						masks++
					}
				}
				if masks != 1 {
					t.Fatalf("of the secret %d, and the share %d at %d, there are %d masks", secret, seen, x, masks)
				}
			}
		}
	}
}

// TestOneMaskOfAChoice: with t = 3, all masks tell all shares at two places, each pair of them once, whatever the secret is.
func TestOneMaskOfAChoice(t *testing.T) {
	f := field.New()
	for _, secret := range []byte{0, 1, 77} {
		for _, xs := range [][]byte{{1, 2}, {255, 9}} {
			masks := [256][256]int{}
			for mask := range 1 << 16 {
				shares := split(t, f, 3, []byte{secret}, []byte{byte(mask >> 8), byte(mask)}, xs)
				masks[shares[0][0]][shares[1][0]]++
			}
			for a := range masks {
				for b, n := range masks[a] {
					if n != 1 {
						t.Fatalf("of the secret %d, and the shares %d, %d at %v, there are %d masks", secret, a, b, xs, n)
					}
				}
			}
		}
	}
}

// maskOf: the mask with which a secret has these t - 1 shares, byte by byte.
func maskOf(t *testing.T, f *field.Field, secret, xs []byte, shares [][]byte) []byte {
	t.Helper()
	size := len(secret)
	mask := make([]byte, len(xs)*size)
	for i := range size {
		ys := []byte{secret[i]}
		for _, s := range shares {
			ys = append(ys, s[i])
		}
		p, err := poly.Through(f, append([]byte{0}, xs...), ys)
		if err != api.OK {
			t.Fatal(err)
		}
		for k := 1; k < len(p); k++ {
			mask[(k-1)*size+i] = p[k]
		}
	}
	return mask
}

// TestAnyOtherSecret: fewer than t shares that were seen, with any further ones up to t - 1, are those of each other secret too.
func TestAnyOtherSecret(t *testing.T) {
	f := field.New()
	r := rand.New(rand.NewSource(9))
	for _, threshold := range []int{2, 3, 5, 40, 255} {
		for range 20 {
			xs := places(r, threshold-1)
			seen := split(t, f, threshold, some(r, 4), some(r, (threshold-1)*4), xs)
			// Those behind k are a choice of their own.
			for i := r.Intn(threshold); i < len(seen); i++ {
				seen[i] = some(r, 4)
			}
			other := some(r, 4)
			mask := maskOf(t, f, other, xs, seen)
			if got := split(t, f, threshold, other, mask, xs); !same(got, seen) {
				t.Fatalf("t = %d: the other secret's shares are %v, not %v", threshold, got, seen)
			}
			mask[r.Intn(len(mask))] ^= byte(1 + r.Intn(255))
			if got := split(t, f, threshold, other, mask, xs); same(got, seen) {
				t.Fatalf("t = %d: another mask has the same shares", threshold)
			}
		}
	}
}

// TestTooFewTellNothing: fewer than t shares join to something, but it hangs on the mask.
func TestTooFewTellNothing(t *testing.T) {
	f := field.New()
	told := map[byte]int{}
	for mask := range 256 {
		shares := split(t, f, 2, []byte{5}, []byte{byte(mask)}, []byte{7})
		got, err := Join(f, []byte{7}, shares)
		if err != api.OK || len(got) != 1 {
			t.Fatal(got, err)
		}
		told[got[0]]++
	}
	if len(told) != 256 {
		t.Errorf("one share of two joins to %d secrets", len(told))
	}
}

// calls: of each function the rows that it tells, of what stands in these.
func calls(f *field.Field, secret, mask, xs []byte, a, b [][]byte) map[string]func() [][]byte {
	one := func(row []byte, _ api.Errno) [][]byte { return [][]byte{row} }
	all := func(rows [][]byte, _ api.Errno) [][]byte { return rows }
	return map[string]func() [][]byte{
		"Share":        func() [][]byte { return one(Share(f, 3, secret, mask, 9)) },
		"Share, t = 1": func() [][]byte { return one(Share(f, 1, secret, nil, 9)) },
		"Split":        func() [][]byte { return all(Split(f, 3, secret, mask, xs)) },
		"Split, t = 1": func() [][]byte { return all(Split(f, 1, secret, nil, xs)) },
		"Split, twice": func() [][]byte { return all(Split(f, 3, secret, mask, []byte{4, 4})) },
		"Delta":        func() [][]byte { return all(Delta(f, 3, mask, xs, len(secret))) },
		"Delta, t = 1": func() [][]byte { return all(Delta(f, 1, nil, xs, len(secret))) },
		"Join":         func() [][]byte { return one(Join(f, xs, a)) },
		"Join of one":  func() [][]byte { return one(Join(f, xs[:1], a[:1])) },
		"At":           func() [][]byte { return one(At(f, xs, a, 99)) },
		"At its place": func() [][]byte { return one(At(f, xs, a, xs[1])) },
		"Add":          func() [][]byte { return all(Add(a, b)) },
		"Add itself":   func() [][]byte { return all(Add(a, a)) },
	}
}

// copies: of rows, with what stands in the room behind them.
func copies(rows [][]byte) [][]byte {
	out := [][]byte{}
	for _, row := range rows[:cap(rows)] {
		out = append(out, slices.Clone(row[:cap(row)]))
	}
	return out
}

func TestMemory(t *testing.T) {
	f := field.New()
	r := rand.New(rand.NewSource(10))
	// All have room behind them, that is filled too.
	secret, mask, xs := some(r, 9)[:4], some(r, 20)[:8], places(r, 6)[:3]
	a, b := make([][]byte, 5), make([][]byte, 5)
	for i := range a {
		a[i], b[i] = some(r, 7)[:4], some(r, 7)[:4]
	}
	a, b = a[:3], b[:3]
	given := [][]byte{secret, mask, xs}
	old, oldA, oldB, oldField := copies(given), copies(a), copies(b), *f
	for what, call := range calls(f, secret, mask, xs, a, b) {
		first, second := call(), call()
		if len(first) == 0 || len(first[0]) != 4 || !same(first, second) {
			t.Fatalf("%s tells %v, then %v", what, first, second)
		}
		want := copies(second)
		for i, row := range first {
			for j := range row[:cap(row)] {
				row[:cap(row)][j] ^= 255
			}
			// What was told of other rows is as it was.
			for k := i + 1; k < len(first); k++ {
				if !bytes.Equal(first[k], want[k]) {
					t.Errorf("%s: two of its rows share memory", what)
				}
			}
		}
		if !same(second, want) {
			t.Errorf("%s tells the same memory twice", what)
		}
		if !same(copies(given), old) || !same(copies(a), oldA) || !same(copies(b), oldB) || *f != oldField {
			t.Fatalf("%s changes what is handed in, or tells its memory", what)
		}
	}
}

// TestNothingIsKept: what was told stays when what was handed in is another.
func TestNothingIsKept(t *testing.T) {
	f := field.New()
	r := rand.New(rand.NewSource(11))
	secret, mask, xs := some(r, 4), some(r, 8), places(r, 3)
	a, b := [][]byte{some(r, 4), some(r, 4), some(r, 4)}, [][]byte{some(r, 4), some(r, 4), some(r, 4)}
	told, want := map[string][][]byte{}, map[string][][]byte{}
	all := calls(f, secret, mask, xs, a, b)
	for what, call := range all {
		told[what] = call()
		want[what] = copies(told[what])
	}
	for _, row := range slices.Concat([][]byte{secret, mask}, a, b) {
		clear(row)
	}
	for what := range all {
		if !same(told[what], want[what]) {
			t.Errorf("%s shares its rows with what was handed in", what)
		}
	}
	// Noughts give noughts now, whatever was asked ahead.
	for what, call := range all {
		for _, row := range call() {
			if !bytes.Equal(row, make([]byte, 4)) {
				t.Errorf("%s keeps something: %v", what, row)
			}
		}
	}
}
