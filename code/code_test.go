package code

import (
	"bytes"
	"math"
	"math/rand"
	"slices"
	"testing"

	"largesse/api"
	"largesse/field"
)

// some: n numbers, the same ones each time the source is.
func some(r *rand.Rand, n int) []byte {
	out := make([]byte, n)
	for i := range out {
		out[i] = byte(r.Intn(256))
	}
	return out
}

// slowValue: power by power, by none of the program's own ways but Slow.
func slowValue(p []byte, x int) byte {
	out, power := byte(0), byte(1)
	for _, c := range p {
		out ^= field.Slow(c, power)
		power = field.Slow(power, byte(x))
	}
	return out
}

// coded: of a code of t parts that are size long, the pieces at all 255 places, told by the polynomials' numbers alone.
func coded(r *rand.Rand, t, size int) [][]byte {
	out := make([][]byte, 255)
	for range size {
		p := some(r, t)
		for i := range out {
			out[i] = append(out[i], slowValue(p, i+1))
		}
	}
	return out
}

// same: lists of the same rows.
func same(a, b [][]byte) bool { return slices.EqualFunc(a, b, bytes.Equal) }

// at: the pieces at these places.
func at(pieces [][]byte, xs []int) [][]byte {
	out := [][]byte{}
	for _, x := range xs {
		out = append(out, pieces[x-1])
	}
	return out
}

// upTo: the places 1 to n.
func upTo(n int) []int {
	out := []int{}
	for x := range n {
		out = append(out, x+1)
	}
	return out
}

// placed: n places of 1 to 255, no two the same, in any order.
func placed(r *rand.Rand, n int) []int {
	out := []int{}
	for _, x := range r.Perm(255)[:n] {
		out = append(out, x+1)
	}
	return out
}

// rows: n of a byte each.
func rows(n int) [][]byte {
	out := make([][]byte, n)
	for i := range out {
		out[i] = []byte{byte(i)}
	}
	return out
}

// P9.1

func TestByKnownNumbers(t *testing.T) {
	f := field.New()
	for _, c := range []struct {
		n           int
		parts, want [][]byte
	}{
		// The polynomial x.
		{3, [][]byte{{1}, {2}}, [][]byte{{1}, {2}, {3}}},
		{2, [][]byte{{1}, {2}}, [][]byte{{1}, {2}}},
		// 5 and 3 times x.
		{4, [][]byte{{6}, {3}}, [][]byte{{6}, {3}, {0}, {9}}},
		// The square of x, and x, byte by byte.
		{5, [][]byte{{1, 1}, {4, 2}, {5, 3}}, [][]byte{{1, 1}, {4, 2}, {5, 3}, {16, 4}, {17, 5}}},
		{1, [][]byte{{7, 8, 9}}, [][]byte{{7, 8, 9}}},
		{3, [][]byte{{7, 8, 9}}, [][]byte{{7, 8, 9}, {7, 8, 9}, {7, 8, 9}}},
		{3, [][]byte{{9}, {9}}, [][]byte{{9}, {9}, {9}}},
		{3, [][]byte{nil, {}}, [][]byte{{}, {}, {}}},
		{1, [][]byte{nil}, [][]byte{nil}},
	} {
		got, err := Encode(f, c.n, c.parts)
		if err != api.OK || !same(got, c.want) {
			t.Errorf("Encode of %v: %v, %d, not %v", c.parts, got, err, c.want)
		}
		for i, want := range c.want {
			if got, err := Piece(f, c.parts, i+1); err != api.OK || !bytes.Equal(got, want) {
				t.Errorf("Piece of %v at %d: %v, %d, not %v", c.parts, i+1, got, err, want)
			}
		}
	}
	// Of x the piece at a place is the place.
	for x := 1; x <= 255; x++ {
		if got, err := Piece(f, [][]byte{{1}, {2}}, x); err != api.OK || !bytes.Equal(got, []byte{byte(x)}) {
			t.Errorf("Piece of 1, 2 at %d: %v, %d", x, got, err)
		}
	}
}

func TestEncode(t *testing.T) {
	f := field.New()
	r := rand.New(rand.NewSource(1))
	for _, parts := range []int{1, 2, 3, 4, 7, 16, 60, 254, 255} {
		for _, size := range []int{0, 1, 2, 5} {
			want := coded(r, parts, size)
			for _, n := range []int{parts, parts + 1, parts + 3, 100, 254, 255} {
				if n < parts || n > 255 {
					continue
				}
				got, err := Encode(f, n, want[:parts])
				if err != api.OK || !same(got, want[:n]) {
					t.Fatalf("Encode of %d parts of %d bytes, at %d places: %v, %d, not %v", parts, size, n, got, err, want[:n])
				}
			}
		}
	}
}

func TestPiece(t *testing.T) {
	f := field.New()
	r := rand.New(rand.NewSource(2))
	for _, parts := range []int{1, 2, 3, 5, 30, 254, 255} {
		want := coded(r, parts, 3)
		for x := 1; x <= 255; x++ {
			if got, err := Piece(f, want[:parts], x); err != api.OK || !bytes.Equal(got, want[x-1]) {
				t.Fatalf("Piece of %d parts, at %d: %v, %d, not %v", parts, x, got, err, want[x-1])
			}
		}
	}
}

// TestOfAPackage: of the size that an array's blocks have by the other mode.
func TestOfAPackage(t *testing.T) {
	f := field.New()
	r := rand.New(rand.NewSource(3))
	want := coded(r, 4, PartSize(1+api.BlockSize+api.KeySize, 4))
	got, err := Encode(f, 9, want[:4])
	if err != api.OK || !same(got, want[:9]) {
		t.Fatalf("Encode: %v, %d, not %v", got, err, want[:9])
	}
	parts, err := Decode(f, 4, []int{9, 2, 5, 7}, at(got, []int{9, 2, 5, 7}))
	if err != api.OK || !same(parts, want[:4]) {
		t.Errorf("Decode: %v, %d, not %v", parts, err, want[:4])
	}
}

func TestWrongParts(t *testing.T) {
	f := field.New()
	long := slices.Concat(rows(255), [][]byte{{1, 2}})
	for _, c := range []struct {
		what  string
		f     *field.Field
		n     int
		parts [][]byte
		err   api.Errno
	}{
		{"no field", nil, 3, rows(2), api.ErrArg},
		{"no field, nor parts", nil, 3, nil, api.ErrArg},
		{"no field, nor a place", nil, 0, rows(2), api.ErrArg},
		{"no field, unlike lengths", nil, 3, [][]byte{{1}, {1, 2}}, api.ErrArg},
		{"no parts", f, 3, nil, api.ErrRange},
		{"an empty list", f, 3, [][]byte{}, api.ErrRange},
		{"no parts, no places", f, 0, nil, api.ErrRange},
		{"no parts, fewer places than none", f, -1, nil, api.ErrRange},
		{"a part more", f, 2, rows(3), api.ErrRange},
		{"no places", f, 0, rows(1), api.ErrRange},
		{"-1 places", f, -1, rows(1), api.ErrRange},
		{"256 places", f, 256, rows(1), api.ErrRange},
		{"256 places and parts", f, 256, rows(256), api.ErrRange},
		{"256 parts", f, 255, rows(256), api.ErrRange},
		{"257 places", f, 257, rows(1), api.ErrRange},
		{"the least number of places", f, math.MinInt, rows(1), api.ErrRange},
		{"the greatest number of places", f, math.MaxInt, rows(1), api.ErrRange},
		{"the greatest number of places, no parts", f, math.MaxInt, nil, api.ErrRange},
		{"a part more, unlike lengths", f, 1, [][]byte{{1}, {1, 2}}, api.ErrRange},
		{"256 places, unlike lengths", f, 256, [][]byte{{1}, {1, 2}}, api.ErrRange},
		{"256 parts, unlike lengths", f, 255, long, api.ErrRange},
		{"the last is longer", f, 3, [][]byte{{1}, {2}, {3, 4}}, api.ErrForm},
		{"the last is shorter", f, 3, [][]byte{{1, 2}, {3}}, api.ErrForm},
		{"the first is empty", f, 3, [][]byte{nil, {3}}, api.ErrForm},
		{"the last is empty", f, 2, [][]byte{{3}, {}}, api.ErrForm},
		{"255 parts, unlike lengths", f, 255, long[1:], api.ErrForm},
	} {
		if got, err := Encode(c.f, c.n, c.parts); err != c.err || len(got) != 0 {
			t.Errorf("Encode, %s: %v, %d, not %d", c.what, got, err, c.err)
		}
	}
}

func TestWrongPieces(t *testing.T) {
	f := field.New()
	ragged := [][]byte{{1}, {1, 2}}
	for _, c := range []struct {
		what  string
		f     *field.Field
		parts [][]byte
		x     int
		err   api.Errno
	}{
		{"no field", nil, rows(2), 1, api.ErrArg},
		{"no field, nor parts", nil, nil, 1, api.ErrArg},
		{"no field, nor a place", nil, rows(2), 0, api.ErrArg},
		{"no field, unlike lengths", nil, ragged, 1, api.ErrArg},
		{"no parts", f, nil, 1, api.ErrRange},
		{"an empty list", f, [][]byte{}, 1, api.ErrRange},
		{"256 parts", f, rows(256), 1, api.ErrRange},
		{"256 parts, and the place 256", f, rows(256), 256, api.ErrRange},
		{"the place 0", f, rows(2), 0, api.ErrRange},
		{"the place -1", f, rows(2), -1, api.ErrRange},
		{"the place 256", f, rows(2), 256, api.ErrRange},
		{"the place 257", f, rows(2), 257, api.ErrRange},
		{"the least number", f, rows(2), math.MinInt, api.ErrRange},
		{"the greatest number", f, rows(2), math.MaxInt, api.ErrRange},
		{"the place 0, unlike lengths", f, ragged, 0, api.ErrRange},
		{"the place 256, unlike lengths", f, ragged, 256, api.ErrRange},
		{"the last is longer", f, ragged, 3, api.ErrForm},
		{"the last is longer, at its place", f, ragged, 2, api.ErrForm},
		{"the last is longer, at the first's place", f, ragged, 1, api.ErrForm},
		{"the last is empty", f, [][]byte{{3}, nil}, 255, api.ErrForm},
	} {
		if got, err := Piece(c.f, c.parts, c.x); err != c.err || len(got) != 0 {
			t.Errorf("Piece, %s: %v, %d, not %d", c.what, got, err, c.err)
		}
	}
}

func TestDecodeByKnownNumbers(t *testing.T) {
	f := field.New()
	for _, c := range []struct {
		t            int
		xs           []int
		pieces, want [][]byte
	}{
		{2, []int{2, 3}, [][]byte{{2}, {3}}, [][]byte{{1}, {2}}},
		{2, []int{255, 77}, [][]byte{{255}, {77}}, [][]byte{{1}, {2}}},
		{2, []int{4, 3}, [][]byte{{9}, {0}}, [][]byte{{6}, {3}}},
		{2, []int{2, 1}, [][]byte{{3}, {6}}, [][]byte{{6}, {3}}},
		{1, []int{200}, [][]byte{{7, 8}}, [][]byte{{7, 8}}},
		{3, []int{5, 1, 4}, [][]byte{{17, 5}, {1, 1}, {16, 4}}, [][]byte{{1, 1}, {4, 2}, {5, 3}}},
		{2, []int{9, 8}, [][]byte{nil, {}}, [][]byte{{}, {}}},
		{1, []int{1}, [][]byte{{}}, [][]byte{{}}},
	} {
		if got, err := Decode(f, c.t, c.xs, c.pieces); err != api.OK || !same(got, c.want) {
			t.Errorf("Decode of %v at %v: %v, %d, not %v", c.pieces, c.xs, got, err, c.want)
		}
	}
}

// TestDecodeOfMore: what stands behind the first t is of no weight, whatever it is.
func TestDecodeOfMore(t *testing.T) {
	f := field.New()
	r := rand.New(rand.NewSource(4))
	for _, parts := range []int{1, 2, 3, 9, 254, 255} {
		all := coded(r, parts, 4)
		xs := placed(r, parts)
		for _, more := range []struct {
			what   string
			xs     []int
			pieces [][]byte
		}{
			{"the right one", xs[:1], at(all, xs[:1])},
			{"a wrong one", []int{8}, [][]byte{some(r, 4)}},
			{"a shorter one", []int{8}, [][]byte{{1}}},
			{"none", []int{8}, [][]byte{nil}},
			{"longer ones", []int{7, 7}, [][]byte{some(r, 5), some(r, 6)}},
			{"places that can't be", []int{0, -1, 256, math.MaxInt, math.MinInt}, make([][]byte, 5)},
			{"the same ones", xs, slices.Repeat([][]byte{{1, 2, 3, 4}}, parts)},
			{"many", make([]int, 300), rows(300)},
		} {
			got, err := Decode(f, parts, slices.Concat(xs, more.xs), slices.Concat(at(all, xs), more.pieces))
			if err != api.OK || !same(got, all[:parts]) {
				t.Fatalf("Decode, t = %d, and %s: %v, %d, not %v", parts, more.what, got, err, all[:parts])
			}
		}
	}
}

func TestWrongDecodings(t *testing.T) {
	f := field.New()
	ragged := [][]byte{{1}, {1, 2}}
	for _, c := range []struct {
		what   string
		f      *field.Field
		t      int
		xs     []int
		pieces [][]byte
		err    api.Errno
	}{
		{"no field", nil, 2, []int{1, 2}, rows(2), api.ErrArg},
		{"no field, and nothing", nil, 0, nil, nil, api.ErrArg},
		{"no field, nor a place, the same, unlike lengths", nil, 2, []int{0, 0}, ragged, api.ErrArg},
		{"a piece less", f, 1, []int{1, 2}, rows(1), api.ErrArg},
		{"a piece more", f, 1, []int{1}, rows(2), api.ErrArg},
		{"no pieces", f, 1, []int{1}, nil, api.ErrArg},
		{"no places", f, 1, nil, rows(1), api.ErrArg},
		{"a piece more, t is 0", f, 0, []int{1}, rows(2), api.ErrArg},
		{"a piece less, too few", f, 9, []int{1, 2}, rows(1), api.ErrArg},
		{"t is 0", f, 0, []int{1, 2}, rows(2), api.ErrRange},
		{"t is 0, and nothing", f, 0, nil, nil, api.ErrRange},
		{"t is -1", f, -1, []int{1, 2}, rows(2), api.ErrRange},
		{"t is 256", f, 256, upTo(256), rows(256), api.ErrRange},
		{"t is 256, too few", f, 256, []int{1, 2}, rows(2), api.ErrRange},
		{"t is the least number", f, math.MinInt, []int{1}, rows(1), api.ErrRange},
		{"t is the greatest number", f, math.MaxInt, []int{1}, rows(1), api.ErrRange},
		{"nothing", f, 1, nil, nil, api.ErrFew},
		{"empty lists", f, 1, []int{}, [][]byte{}, api.ErrFew},
		{"too few", f, 3, []int{1, 2}, rows(2), api.ErrFew},
		{"too few for the greatest t", f, 255, upTo(254), rows(254), api.ErrFew},
		{"too few, nor a place", f, 3, []int{0, 2}, rows(2), api.ErrFew},
		{"too few, unlike lengths", f, 3, []int{1, 2}, ragged, api.ErrFew},
		{"too few, the same", f, 3, []int{1, 1}, rows(2), api.ErrFew},
		{"the place 0", f, 2, []int{0, 2}, rows(2), api.ErrRange},
		{"the place 0, last", f, 2, []int{2, 0, 3}, rows(3), api.ErrRange},
		{"the place -1", f, 2, []int{-1, 2}, rows(2), api.ErrRange},
		{"the place 256", f, 2, []int{1, 256}, rows(2), api.ErrRange},
		{"the place 257, and 1", f, 2, []int{1, 257}, rows(2), api.ErrRange},
		{"the least number", f, 1, []int{math.MinInt}, rows(1), api.ErrRange},
		{"the greatest number", f, 1, []int{math.MaxInt}, rows(1), api.ErrRange},
		{"the place 0, unlike lengths", f, 2, []int{0, 2}, ragged, api.ErrRange},
		{"the place 0 twice", f, 2, []int{0, 0}, rows(2), api.ErrRange},
		{"unlike lengths, of the parts themselves", f, 2, []int{1, 2}, ragged, api.ErrForm},
		{"unlike lengths", f, 2, []int{5, 6}, ragged, api.ErrForm},
		{"unlike lengths, the last", f, 3, []int{5, 6, 1}, [][]byte{{1}, {2}, nil}, api.ErrForm},
		{"unlike lengths, the same", f, 2, []int{5, 5}, ragged, api.ErrForm},
		{"the same", f, 2, []int{5, 5}, rows(2), api.ErrSame},
		{"the same, and the same pieces", f, 2, []int{5, 5}, [][]byte{{1}, {1}}, api.ErrSame},
		{"the same, of the parts themselves", f, 2, []int{1, 1}, rows(2), api.ErrSame},
		{"the same, far from one another", f, 3, []int{2, 1, 2, 3}, rows(4), api.ErrSame},
		{"the same, empty pieces", f, 2, []int{3, 3}, make([][]byte, 2), api.ErrSame},
		{"the same, of the greatest t", f, 255, append(upTo(254), 7), rows(255), api.ErrSame},
	} {
		if got, err := Decode(c.f, c.t, c.xs, c.pieces); err != c.err || len(got) != 0 {
			t.Errorf("Decode, %s: %v, %d, not %d", c.what, got, err, c.err)
		}
	}
}

// P9.2

func TestPartSize(t *testing.T) {
	for _, c := range []struct{ size, t, want int }{
		{0, 1, 0}, {0, 2, 0}, {0, 255, 0}, {1, 1, 1}, {1, 2, 1}, {1, 255, 1}, {5, 2, 3}, {6, 2, 3}, {7, 2, 4}, {6, 3, 2}, {7, 3, 3},
		{254, 255, 1}, {255, 255, 1}, {256, 255, 2}, {510, 255, 2}, {511, 255, 3}, {473, 1, 473}, {473, 2, 237}, {473, 4, 119}, {440, 4, 110},
		{5, 0, 0}, {5, -1, 0}, {5, 256, 0}, {5, 257, 0}, {512, 256, 0}, {5, math.MinInt, 0}, {5, math.MaxInt, 0},
		{-1, 1, 0}, {-1, 2, 0}, {-5, 2, 0}, {-510, 255, 0}, {math.MinInt, 1, 0}, {math.MinInt, 255, 0},
		{-6, -2, 0}, {-1, 0, 0}, {math.MinInt, -1, 0}, {0, 0, 0}, {0, 256, 0},
		// A number's end, rounded up and not.
		{math.MaxInt, 1, math.MaxInt}, {math.MaxInt, 2, math.MaxInt/2 + 1}, {math.MaxInt - 1, 2, math.MaxInt / 2},
		{math.MaxInt, 255, math.MaxInt/255 + 1}, {math.MaxInt, 256, 0}, {math.MaxInt, 0, 0},
	} {
		if got := PartSize(c.size, c.t); got != c.want {
			t.Errorf("PartSize of %d by %d: %d, not %d", c.size, c.t, got, c.want)
		}
	}
}

func TestCut(t *testing.T) {
	for _, c := range []struct {
		b    string
		t    int
		want []string
	}{
		{"hello", 1, []string{"hello"}},
		{"hello", 2, []string{"hel", "lo\x00"}},
		{"hello!", 2, []string{"hel", "lo!"}},
		{"hello", 3, []string{"he", "ll", "o\x00"}},
		// The last part has noughts alone.
		{"hello", 4, []string{"he", "ll", "o\x00", "\x00\x00"}},
		{"hello", 5, []string{"h", "e", "l", "l", "o"}},
		{"hello", 7, []string{"h", "e", "l", "l", "o", "\x00", "\x00"}},
		{"", 1, []string{""}},
		{"", 3, []string{"", "", ""}},
		{"\x00\x01", 1, []string{"\x00\x01"}},
	} {
		got, err := Cut([]byte(c.b), c.t)
		if err != api.OK || !slices.EqualFunc(got, c.want, func(a []byte, b string) bool { return string(a) == b }) {
			t.Errorf("Cut of %q by %d: %q, %d, not %q", c.b, c.t, got, err, c.want)
		}
	}
}

// TestCutAndGlue: of all lengths, that what was cut and glued is as it was, and behind it stand noughts.
func TestCutAndGlue(t *testing.T) {
	r := rand.New(rand.NewSource(5))
	for _, parts := range []int{1, 2, 3, 4, 7, 8, 100, 254, 255} {
		for size := 0; size < 600; size += 1 + parts/50 {
			b := some(r, size)
			got, err := Cut(b, parts)
			if err != api.OK || len(got) != parts {
				t.Fatalf("Cut of %d bytes by %d: %d parts, %d", size, parts, len(got), err)
			}
			for _, part := range got {
				if len(part) != PartSize(size, parts) || len(part) != (size+parts-1)/parts {
					t.Fatalf("Cut of %d bytes by %d: a part of %d", size, parts, len(part))
				}
			}
			all := slices.Concat(got...)
			if !bytes.Equal(all[:size], b) || !bytes.Equal(all[size:], make([]byte, len(all)-size)) {
				t.Fatalf("Cut of %v by %d: %v", b, parts, all)
			}
			for _, n := range []int{size, size / 2, 0, len(all)} {
				if got, err := Glue(got, n); err != api.OK || !bytes.Equal(got, all[:n]) {
					t.Fatalf("Glue of %v to %d: %v, %d", all, n, got, err)
				}
			}
			if got, err := Glue(got, len(all)+1); err != api.ErrRange || len(got) != 0 {
				t.Fatalf("Glue of %v to a byte more: %v, %d", all, got, err)
			}
		}
	}
}

// TestCutLeavesSpareRoom: what stands behind the bytes isn't theirs.
func TestCutLeavesSpareRoom(t *testing.T) {
	b := []byte{1, 2, 3, 4, 5, 6, 7, 8}
	got, err := Cut(b[:3], 2)
	if err != api.OK || !same(got, [][]byte{{1, 2}, {3, 0}}) {
		t.Errorf("Cut: %v, %d", got, err)
	}
	if got, err := Glue([][]byte{b[:3], b[:1]}, 5); err != api.ErrRange || len(got) != 0 {
		t.Errorf("Glue: %v, %d", got, err)
	}
}

func TestWrongCuts(t *testing.T) {
	for _, parts := range []int{0, -1, -2, 256, 257, math.MinInt, math.MaxInt} {
		for _, b := range [][]byte{nil, {}, {1, 2, 3}, make([]byte, 600)} {
			if got, err := Cut(b, parts); err != api.ErrRange || len(got) != 0 {
				t.Errorf("Cut of %d bytes by %d: %v, %d", len(b), parts, got, err)
			}
		}
	}
}

func TestGlue(t *testing.T) {
	for _, c := range []struct {
		parts [][]byte
		size  int
		want  []byte
		err   api.Errno
	}{
		{[][]byte{{1, 2}, {3, 0}}, 3, []byte{1, 2, 3}, api.OK},
		{[][]byte{{1, 2}, {3, 0}}, 4, []byte{1, 2, 3, 0}, api.OK},
		{[][]byte{{1, 2}, {3, 0}}, 2, []byte{1, 2}, api.OK},
		{[][]byte{{1, 2}, {3, 0}}, 1, []byte{1}, api.OK},
		{[][]byte{{1, 2}, {3, 0}}, 0, nil, api.OK},
		{[][]byte{{1, 2}, {3, 0}}, 5, nil, api.ErrRange},
		{[][]byte{{1, 2}, {3, 0}}, -1, nil, api.ErrRange},
		{[][]byte{{1, 2}, {3, 0}}, math.MinInt, nil, api.ErrRange},
		{[][]byte{{1, 2}, {3, 0}}, math.MaxInt, nil, api.ErrRange},
		// Parts of any lengths are glued too.
		{[][]byte{{1}, nil, {2, 3, 4}, {}, {5, 6}}, 5, []byte{1, 2, 3, 4, 5}, api.OK},
		{[][]byte{{1}, nil, {2, 3, 4}, {}, {5, 6}}, 6, []byte{1, 2, 3, 4, 5, 6}, api.OK},
		{[][]byte{{1}, nil, {2, 3, 4}, {}, {5, 6}}, 7, nil, api.ErrRange},
		{nil, 0, nil, api.OK},
		{[][]byte{}, 0, nil, api.OK},
		{[][]byte{nil, {}}, 0, nil, api.OK},
		{nil, 1, nil, api.ErrRange},
		{nil, -1, nil, api.ErrRange},
		{[][]byte{nil, {}}, 1, nil, api.ErrRange},
		{rows(300), 258, append(slices.Concat(rows(256)...), 0, 1), api.OK},
	} {
		if got, err := Glue(c.parts, c.size); err != c.err || !bytes.Equal(got, c.want) {
			t.Errorf("Glue of %v to %d: %v, %d, not %v, %d", c.parts, c.size, got, err, c.want, c.err)
		}
	}
}

// P9.3

// orders: of n places, each choice of k in each order.
func orders(n, k int) [][]int {
	if k == 0 {
		return [][]int{{}}
	}
	out := [][]int{}
	for _, ahead := range orders(n, k-1) {
		for x := 1; x <= n; x++ {
			if !slices.Contains(ahead, x) {
				out = append(out, append(slices.Clone(ahead), x))
			}
		}
	}
	return out
}

func TestAnyEnough(t *testing.T) {
	f := field.New()
	r := rand.New(rand.NewSource(6))
	const n = 6
	for parts := 1; parts <= n; parts++ {
		want := [][]byte{}
		for range parts {
			want = append(want, some(r, 3))
		}
		pieces, err := Encode(f, n, want)
		if err != api.OK || len(pieces) != n || !same(pieces[:parts], want) {
			t.Fatalf("Encode of %v: %v, %d", want, pieces, err)
		}
		for _, xs := range orders(n, parts) {
			if got, err := Decode(f, parts, xs, at(pieces, xs)); err != api.OK || !same(got, want) {
				t.Fatalf("Decode, t = %d, of %v: %v, %d, not %v", parts, xs, got, err, want)
			}
		}
	}
}

func TestAnyEnoughOfMany(t *testing.T) {
	f := field.New()
	r := rand.New(rand.NewSource(7))
	for _, parts := range []int{1, 2, 20, 100, 170, 254, 255} {
		b := some(r, 2*parts-1)
		want, err := Cut(b, parts)
		if err != api.OK {
			t.Fatal(err)
		}
		pieces, err := Encode(f, 255, want)
		if err != api.OK {
			t.Fatal(err)
		}
		for range 4 {
			xs := placed(r, 255)[:r.Intn(256-parts)+parts]
			got, err := Decode(f, parts, xs, at(pieces, xs))
			if err != api.OK || !same(got, want) {
				t.Fatalf("Decode, t = %d, of %v: %v, %d, not %v", parts, xs, got, err, want)
			}
			if got, err := Glue(got, len(b)); err != api.OK || !bytes.Equal(got, b) {
				t.Fatalf("Glue, t = %d: %v, %d, not %v", parts, got, err, b)
			}
		}
		// The last places are the farthest from the parts.
		xs := upTo(255)[255-parts:]
		if got, err := Decode(f, parts, xs, at(pieces, xs)); err != api.OK || !same(got, want) {
			t.Fatalf("Decode, t = %d, of the last ones: %v, %d, not %v", parts, got, err, want)
		}
	}
}

// TestOneWrongPiece: each piece of the first t is of weight.
func TestOneWrongPiece(t *testing.T) {
	f := field.New()
	r := rand.New(rand.NewSource(8))
	all := coded(r, 4, 3)
	for range 50 {
		xs := placed(r, 4)
		pieces := at(all, xs)
		i := r.Intn(4)
		pieces[i] = slices.Clone(pieces[i])
		pieces[i][r.Intn(3)] ^= byte(1 + r.Intn(255))
		if got, err := Decode(f, 4, xs, pieces); err != api.OK || same(got, all[:4]) {
			t.Fatalf("Decode of %v, one wrong: %v, %d", xs, got, err)
		}
	}
}

// calls: of each function the rows that it tells, of what stands in these.
func calls(f *field.Field, parts [][]byte, xs []int, b []byte) map[string]func() [][]byte {
	one := func(row []byte, _ api.Errno) [][]byte { return [][]byte{row} }
	all := func(rows [][]byte, _ api.Errno) [][]byte { return rows }
	return map[string]func() [][]byte{
		"Encode":             func() [][]byte { return all(Encode(f, 6, parts)) },
		"Encode, n = t":      func() [][]byte { return all(Encode(f, 3, parts)) },
		"Encode of one":      func() [][]byte { return all(Encode(f, 6, parts[:1])) },
		"Piece":              func() [][]byte { return one(Piece(f, parts, 200)) },
		"Piece of one":       func() [][]byte { return one(Piece(f, parts[:1], 200)) },
		"Piece that is part": func() [][]byte { return one(Piece(f, parts, 2)) },
		"Decode":             func() [][]byte { return all(Decode(f, 3, xs, parts)) },
		"Decode of more":     func() [][]byte { return all(Decode(f, 2, xs, parts)) },
		"Decode of one":      func() [][]byte { return all(Decode(f, 1, xs[1:], parts[1:])) },
		"Decode of parts":    func() [][]byte { return all(Decode(f, 3, []int{1, 2, 3}, parts)) },
		"Cut":                func() [][]byte { return all(Cut(b, 3)) },
		"Cut, t = 1":         func() [][]byte { return all(Cut(b, 1)) },
		"Cut, t = 255":       func() [][]byte { return all(Cut(b, 255)) },
		"Glue":               func() [][]byte { return one(Glue(parts, 11)) },
		"Glue of all":        func() [][]byte { return one(Glue(parts, 12)) },
		"Glue of one":        func() [][]byte { return one(Glue(parts[:1], 4)) },
		"Glue of less":       func() [][]byte { return one(Glue(parts, 2)) },
	}
}

// copies: of rows, with what stands in the room behind them.
func copies(rows [][]byte) [][]byte {
	out := [][]byte{}
	for _, row := range rows[:cap(rows)] {
		out = append(out, slices.Clone(row[:cap(row)]))
	}
	return out
}

// given: parts, places and bytes, all with room behind them, that is filled too.
func given(r *rand.Rand) (parts [][]byte, xs []int, b []byte) {
	parts = make([][]byte, 5)
	for i := range parts {
		parts[i] = some(r, 9)[:4]
	}
	return parts[:3], []int{9, 2, 5, 7, 8}[:3], some(r, 20)[:11]
}

// turn: each byte of a row is made another one, the room behind it too.
func turn(row []byte) {
	for i := range row[:cap(row)] {
		row[:cap(row)][i] ^= 255
	}
}

func TestMemory(t *testing.T) {
	f := field.New()
	r := rand.New(rand.NewSource(9))
	parts, xs, b := given(r)
	oldParts, oldXs, oldB, oldField := copies(parts), slices.Clone(xs[:cap(xs)]), slices.Clone(b[:cap(b)]), *f
	for what, call := range calls(f, parts, xs, b) {
		first, second := call(), call()
		if len(first) == 0 || len(first[0]) == 0 || !same(first, second) {
			t.Fatalf("%s tells %v, then %v", what, first, second)
		}
		want := copies(second)
		for i, row := range first {
			turn(row)
			// What was told of other rows is as it was.
			for k := i + 1; k < len(first); k++ {
				if !bytes.Equal(first[k], second[k]) {
					t.Errorf("%s: two of its rows share memory", what)
				}
			}
		}
		if !same(copies(second), want) {
			t.Errorf("%s tells the same memory twice", what)
		}
		if !same(copies(parts), oldParts) || !slices.Equal(xs[:cap(xs)], oldXs) || !bytes.Equal(b[:cap(b)], oldB) || *f != oldField {
			t.Fatalf("%s changes what is handed in, or tells its memory", what)
		}
	}
}

// TestNothingIsKept: what was told stays when what was handed in is another.
func TestNothingIsKept(t *testing.T) {
	f := field.New()
	r := rand.New(rand.NewSource(10))
	parts, xs, b := given(r)
	told, want := map[string][][]byte{}, map[string][][]byte{}
	all := calls(f, parts, xs, b)
	for what, call := range all {
		told[what] = call()
		want[what] = copies(told[what])
	}
	for _, row := range slices.Concat(parts, [][]byte{b}) {
		clear(row)
	}
	for what := range all {
		if !same(copies(told[what]), want[what]) {
			t.Errorf("%s shares its rows with what was handed in", what)
		}
	}
	// Noughts give noughts now, whatever was asked ahead.
	for what, call := range all {
		for _, row := range call() {
			if !bytes.Equal(row, make([]byte, len(row))) {
				t.Errorf("%s keeps something: %v", what, row)
			}
		}
	}
}

// TestOneRowGivenTwice: parts that share memory are told apart all the same.
func TestOneRowGivenTwice(t *testing.T) {
	f := field.New()
	row := []byte{1, 2, 3}
	pieces, err := Encode(f, 3, [][]byte{row, row})
	if err != api.OK || !same(pieces, [][]byte{row, row, row}) {
		t.Fatal(pieces, err)
	}
	parts, err := Decode(f, 2, []int{1, 2}, [][]byte{row, row})
	if err != api.OK || !same(parts, [][]byte{row, row}) {
		t.Fatal(parts, err)
	}
	turn(pieces[0])
	turn(parts[0])
	if !bytes.Equal(row, []byte{1, 2, 3}) || !bytes.Equal(pieces[1], row) || !bytes.Equal(parts[1], row) {
		t.Errorf("%v, %v, %v", row, pieces, parts)
	}
}
