package mend

import (
	"bytes"
	"math"
	"math/rand"
	"slices"
	"testing"

	"largesse/api"
	"largesse/field"
)

// some: n numbers, the same ones each time the source is.
func some(r *rand.Rand, n int) []byte {
	out := make([]byte, n)
	for i := range out {
		out[i] = byte(r.Intn(256))
	}
	return out
}

// places: n of them, no two the same, in any order.
func places(r *rand.Rand, n int) []byte {
	out := make([]byte, n)
	for i, x := range r.Perm(256)[:n] {
		out[i] = byte(x)
	}
	return out
}

// slowValue: power by power, by none of the program's own ways but Slow.
func slowValue(p []byte, x byte) byte {
	out, power := byte(0), byte(1)
	for _, c := range p {
		out ^= field.Slow(c, power)
		power = field.Slow(power, x)
	}
	return out
}

// values: those of a polynomial at all places.
func values(p, xs []byte) []byte {
	out := make([]byte, len(xs))
	for i, x := range xs {
		out[i] = slowValue(p, x)
	}
	return out
}

// cut: without noughts at the end.
func cut(p []byte) []byte {
	out := slices.Clone(p)
	for len(out) > 0 && out[len(out)-1] == 0 {
		out = out[:len(out)-1]
	}
	return out
}

// spoilt: the values, with those that have these numbers changed.
func spoilt(r *rand.Rand, ys []byte, wrong []int) []byte {
	out := slices.Clone(ys)
	for _, i := range wrong {
		out[i] ^= byte(1 + r.Intn(255))
	}
	return out
}

// choices: all lists of k rising numbers below m.
func choices(m, k int) [][]int {
	if k == 0 {
		return [][]int{nil}
	}
	out := [][]int{}
	for last := k - 1; last < m; last++ {
		for _, c := range choices(last, k-1) {
			out = append(out, append(slices.Clone(c), last))
		}
	}
	return out
}

// slowInverse: by trying.
func slowInverse(a byte) byte {
	for b := range 256 {
		if field.Slow(a, byte(b)) == 1 {
			return byte(b)
		}
	}
	return 0
}

// lagrange: at x, the value of the polynomial through the chosen ones of the values.
func lagrange(xs, ys []byte, chosen []int, x byte) byte {
	out := byte(0)
	for _, i := range chosen {
		term := ys[i]
		for _, j := range chosen {
			if j != i {
				term = field.Slow(field.Slow(term, x^xs[j]), slowInverse(xs[i]^xs[j]))
			}
		}
		out ^= term
	}
	return out
}

// tried: of which choices of t values the polynomial differs from no more than e; nil: of none.
func tried(t int, xs, ys []byte, e int) []int {
	for _, chosen := range choices(len(xs), t) {
		n := 0
		for i, x := range xs {
			if lagrange(xs, ys, chosen, x) != ys[i] {
				n++
			}
		}
		if n <= e {
			return chosen
		}
	}
	return nil
}

// split: of each column's polynomial the values, as a row for each place.
func split(ps [][]byte, xs []byte) [][]byte {
	out := make([][]byte, len(xs))
	for i, x := range xs {
		for _, p := range ps {
			out[i] = append(out[i], slowValue(p, x))
		}
	}
	return out
}

// shapes: numbers of places and thresholds, small ones and the ends.
var shapes = []struct{ m, t int }{
	{1, 1}, {2, 1}, {2, 2}, {3, 1}, {3, 2}, {3, 3}, {4, 1}, {4, 2}, {5, 1}, {5, 2}, {5, 3}, {5, 4}, {6, 2}, {7, 3}, {8, 1}, {9, 4}, {10, 3},
	{20, 7}, {31, 1}, {64, 33}, {100, 50}, {255, 1}, {255, 2}, {255, 127}, {255, 128}, {255, 252}, {255, 253}, {255, 254}, {255, 255}, {254, 100},
}

// P10.1

func TestRadius(t *testing.T) {
	for _, c := range []struct{ m, t, want int }{
		{1, 1, 0}, {2, 1, 0}, {3, 1, 1}, {4, 1, 1}, {5, 1, 2}, {5, 2, 1}, {5, 3, 1}, {5, 4, 0}, {5, 5, 0}, {9, 3, 3},
		{255, 1, 127}, {255, 2, 126}, {255, 253, 1}, {255, 254, 0}, {255, 255, 0}, {300, 1, 149}, {1000, 300, 350},
		{0, 0, 0}, {0, 1, 0}, {1, 2, 0}, {1, 4, 0}, {1, 255, 0}, {0, 255, 0}, {-1, 1, 0}, {-5, -2, 0},
		{7, 0, 3}, {0, -6, 3}, {-2, -5, 1}, {3, -4, 3},
		{math.MaxInt, 0, math.MaxInt / 2}, {math.MaxInt, 1, math.MaxInt / 2}, {math.MaxInt, math.MaxInt, 0}, {1, math.MaxInt, 0},
		{math.MinInt, math.MaxInt, 0}, {math.MinInt, 1, 0}, {math.MinInt, math.MinInt, 0},
		// The differences are more than an int tells.
		{math.MaxInt, math.MinInt, math.MaxInt}, {math.MaxInt, -1, math.MaxInt/2 + 1}, {0, math.MinInt, math.MaxInt/2 + 1}, {math.MaxInt, -2, math.MaxInt/2 + 1},
	} {
		if got := Radius(c.m, c.t); got != c.want {
			t.Errorf("Radius of %d and %d: %d, not %d", c.m, c.t, got, c.want)
		}
	}
}

func TestColumnByKnownNumbers(t *testing.T) {
	f := field.New()
	for _, c := range []struct {
		t      int
		xs, ys []byte
		e      int
		want   []byte
		err    api.Errno
	}{
		{1, []byte{1, 2, 3}, []byte{5, 5, 9}, 1, []byte{5}, api.OK},
		{1, []byte{1, 2, 3}, []byte{9, 5, 5}, 1, []byte{5}, api.OK},
		{1, []byte{3, 0, 255}, []byte{5, 9, 5}, 1, []byte{5}, api.OK},
		{1, []byte{1, 2, 3}, []byte{5, 5, 9}, 0, nil, api.ErrCorrupt},
		{1, []byte{1, 2, 3}, []byte{5, 7, 9}, 1, nil, api.ErrCorrupt},
		{1, []byte{1, 2, 3}, []byte{5, 7, 9}, 2, nil, api.ErrCorrupt},
		{1, []byte{1, 2}, []byte{5, 9}, 1, nil, api.ErrCorrupt},
		{1, []byte{1, 2}, []byte{5, 9}, 2, nil, api.ErrCorrupt},
		{1, []byte{1, 2}, []byte{5, 5}, 0, []byte{5}, api.OK},
		{1, []byte{7}, []byte{5}, 0, []byte{5}, api.OK},
		{1, []byte{7}, []byte{5}, math.MaxInt, []byte{5}, api.OK},
		// 0 is a polynomial too.
		{1, []byte{7}, []byte{0}, 0, nil, api.OK},
		{1, []byte{1, 2, 3}, []byte{0, 0, 9}, 1, nil, api.OK},
		{3, []byte{1, 2, 3}, []byte{0, 0, 0}, 0, nil, api.OK},
		// 5 and 3 times x.
		{2, []byte{1, 2}, []byte{6, 3}, 0, []byte{5, 3}, api.OK},
		{2, []byte{1, 2, 3}, []byte{6, 3, 0}, 1, []byte{5, 3}, api.OK},
		{2, []byte{1, 2, 3}, []byte{6, 3, 1}, 1, nil, api.ErrCorrupt},
		{2, []byte{1, 2, 3, 0}, []byte{6, 77, 0, 5}, 1, []byte{5, 3}, api.OK},
		{2, []byte{1, 2, 3, 0}, []byte{6, 77, 0, 5}, 0, nil, api.ErrCorrupt},
		{3, []byte{1, 2, 3, 0}, []byte{6, 3, 0, 5}, 0, []byte{5, 3}, api.OK},
		// The square of x isn't below 2.
		{2, []byte{0, 1, 2}, []byte{0, 1, 4}, 1, nil, api.ErrCorrupt},
		{3, []byte{0, 1, 2}, []byte{0, 1, 4}, 0, []byte{0, 0, 1}, api.OK},
		{2, []byte{0, 1, 2, 3, 4, 5}, []byte{0, 1, 4, 5, 16, 17}, 2, nil, api.ErrCorrupt},
		{3, []byte{0, 1, 2, 3, 4, 5}, []byte{0, 1, 4, 5, 16, 99}, 1, []byte{0, 0, 1}, api.OK},
	} {
		got, err := Column(f, c.t, c.xs, c.ys, c.e)
		if err != c.err || !bytes.Equal(got, c.want) {
			t.Errorf("Column of %v, t = %d, up to %d: %v, %d, not %v, %d", c.ys, c.t, c.e, got, err, c.want, c.err)
		}
	}
}

// TestColumn: with as many wrong ones as may be, and fewer, and of all degrees below t.
func TestColumn(t *testing.T) {
	f := field.New()
	r := rand.New(rand.NewSource(1))
	for _, c := range shapes {
		radius := (c.m - c.t) / 2
		for round, n := range []int{radius, radius, radius / 2, 1, 0, 0} {
			if n > radius {
				continue
			}
			p, xs := some(r, c.t), places(r, c.m)
			if round%2 == 1 {
				p = p[:r.Intn(c.t+1)]
			}
			ys := spoilt(r, values(p, xs), r.Perm(c.m)[:n])
			for _, e := range []int{n, n + 1, radius, radius + 1, 2*radius + 7, math.MaxInt} {
				if got, err := Column(f, c.t, xs, ys, e); err != api.OK || !bytes.Equal(got, cut(p)) {
					t.Fatalf("Column of %d places, t = %d, %d wrong, up to %d: %v, %d, not %v", c.m, c.t, n, e, got, err, p)
				}
			}
			for _, e := range []int{0, n / 2, n - 1} {
				if e < 0 || e >= n {
					continue
				}
				if got, err := Column(f, c.t, xs, ys, e); err != api.ErrCorrupt || len(got) != 0 {
					t.Fatalf("Column of %d places, t = %d, %d wrong, up to %d: %v, %d", c.m, c.t, n, e, got, err)
				}
			}
		}
	}
}

// TestColumnByTrying: of any values, few of which are right, what trying each choice of t values tells.
func TestColumnByTrying(t *testing.T) {
	f := field.New()
	r := rand.New(rand.NewSource(2))
	told := map[api.Errno]int{}
	for range 700 {
		m := 1 + r.Intn(6)
		least := 1 + r.Intn(m)
		xs := places(r, m)
		ys := spoilt(r, values(some(r, least), xs), r.Perm(m)[:r.Intn(m+1)])
		if r.Intn(3) == 0 {
			for i := range ys {
				ys[i] &= 1
			}
		}
		e := r.Intn(4)
		chosen := tried(least, xs, ys, min(e, (m-least)/2))
		got, err := Column(f, least, xs, ys, e)
		told[err]++
		if (err == api.OK) != (chosen != nil) || err != api.OK && err != api.ErrCorrupt || len(got) > least || !bytes.Equal(got, cut(got)) {
			t.Fatalf("Column of %v at %v, t = %d, up to %d: %v, %d, and %v are right", ys, xs, least, e, got, err, chosen)
		}
		for x := 0; x < 256 && chosen != nil; x += 5 {
			if slowValue(got, byte(x)) != lagrange(xs, ys, chosen, byte(x)) {
				t.Fatalf("Column of %v at %v, t = %d, up to %d: %v isn't right at %d", ys, xs, least, e, got, x)
			}
		}
		if chosen == nil && len(got) != 0 {
			t.Fatalf("Column tells %v beside an error", got)
		}
	}
	if told[api.OK] < 100 || told[api.ErrCorrupt] < 100 {
		t.Errorf("too few of each kind: %v", told)
	}
}

// wrongArguments: what can't be asked of Column nor of Rows.
func wrongArguments() []struct {
	what string
	f    *field.Field
	t    int
	xs   []byte
	ys   int
	e    int
	err  api.Errno
} {
	f := field.New()
	r := rand.New(rand.NewSource(3))
	twice := places(r, 255)
	twice[254] = twice[0]
	return []struct {
		what string
		f    *field.Field
		t    int
		xs   []byte
		ys   int
		e    int
		err  api.Errno
	}{
		{"no field", nil, 1, []byte{1, 2, 3}, 3, 1, api.ErrArg},
		{"no field, nothing", nil, 1, nil, 0, 0, api.ErrArg},
		{"no field, t = 0", nil, 0, []byte{1}, 1, 0, api.ErrArg},
		{"no field, two the same", nil, 1, []byte{1, 1}, 2, 0, api.ErrArg},
		{"a value fewer", f, 1, []byte{1, 2}, 1, 0, api.ErrArg},
		{"a value more", f, 1, []byte{1, 2}, 3, 0, api.ErrArg},
		{"no values", f, 1, []byte{1}, 0, 0, api.ErrArg},
		{"no places", f, 1, nil, 1, 0, api.ErrArg},
		{"a value fewer, t = 0", f, 0, []byte{1, 2}, 1, 0, api.ErrArg},
		{"a value fewer, e = -1", f, 1, []byte{1, 2}, 1, -1, api.ErrArg},
		{"a value fewer, too few", f, 5, []byte{1, 2}, 1, 0, api.ErrArg},
		{"a value fewer, two the same", f, 1, []byte{1, 1}, 1, 0, api.ErrArg},
		{"a value more, too many", f, 1, make([]byte, 256), 257, 0, api.ErrArg},
		{"t = 0", f, 0, []byte{1, 2}, 2, 0, api.ErrRange},
		{"t = -1", f, -1, []byte{1, 2}, 2, 0, api.ErrRange},
		{"the least t", f, math.MinInt, []byte{1, 2}, 2, 0, api.ErrRange},
		{"t = 256", f, 256, []byte{1, 2}, 2, 0, api.ErrRange},
		{"the greatest t", f, math.MaxInt, []byte{1, 2}, 2, 0, api.ErrRange},
		{"t = 256, of 256", f, 256, places(r, 256), 256, 0, api.ErrRange},
		{"t = 0, nothing", f, 0, nil, 0, 0, api.ErrRange},
		{"t = 0, two the same", f, 0, []byte{1, 1}, 2, 0, api.ErrRange},
		{"e = -1", f, 1, []byte{1, 2}, 2, -1, api.ErrRange},
		{"the least e", f, 1, []byte{1, 2}, 2, math.MinInt, api.ErrRange},
		{"e = -1, nothing", f, 1, nil, 0, -1, api.ErrRange},
		{"e = -1, too few", f, 3, []byte{1, 2}, 2, -1, api.ErrRange},
		{"e = -1, too many", f, 1, make([]byte, 256), 256, -1, api.ErrRange},
		{"nothing", f, 1, nil, 0, 0, api.ErrFew},
		{"empty lists", f, 1, []byte{}, 0, 3, api.ErrFew},
		{"one too few", f, 3, []byte{1, 2}, 2, 1, api.ErrFew},
		{"254 of 255", f, 255, places(r, 254), 254, 0, api.ErrFew},
		{"too few, two the same", f, 3, []byte{1, 1}, 2, 0, api.ErrFew},
		{"all numbers", f, 1, places(r, 256), 256, 0, api.ErrLong},
		{"all numbers, t = 255", f, 255, places(r, 256), 256, 0, api.ErrLong},
		{"too many, the same", f, 1, make([]byte, 256), 256, 200, api.ErrLong},
		{"many too many", f, 1, make([]byte, 70000), 70000, 0, api.ErrLong},
		{"two the same", f, 1, []byte{1, 1}, 2, 0, api.ErrSame},
		{"two noughts", f, 1, []byte{0, 3, 0}, 3, 1, api.ErrSame},
		{"two the same, behind t", f, 1, []byte{1, 2, 7, 7}, 4, 1, api.ErrSame},
		{"two ends the same", f, 255, twice, 255, 0, api.ErrSame},
		{"two the same, t = m", f, 2, []byte{4, 4}, 2, 0, api.ErrSame},
	}
}

func TestWrongArguments(t *testing.T) {
	for _, c := range wrongArguments() {
		if got, err := Column(c.f, c.t, c.xs, make([]byte, c.ys), c.e); err != c.err || len(got) != 0 {
			t.Errorf("Column, %s: %v, %d, not %d", c.what, got, err, c.err)
		}
		// Of values that aren't right either.
		odd := make([]byte, c.ys)
		for i := range odd {
			odd[i] = byte(i * i)
		}
		if got, err := Column(c.f, c.t, c.xs, odd, c.e); err != c.err || len(got) != 0 {
			t.Errorf("Column of odd values, %s: %v, %d, not %d", c.what, got, err, c.err)
		}
	}
}

// P10.2

func TestRowsByKnownNumbers(t *testing.T) {
	f := field.New()
	m, err := Rows(f, 1, []byte{1, 2, 3}, [][]byte{{5, 6}, {5, 9}, {5, 6}}, 1)
	if err != api.OK || !bytes.Equal(m.At(7), []byte{5, 6}) || !slices.Equal(m.Wrong(), []int{1}) {
		t.Errorf("of one wrong: %v, %v, %d", m.At(7), m.Wrong(), err)
	}
	// 5 and 3 times x, and x: each column has another wrong one.
	rows := [][]byte{{6, 1}, {3, 9}, {8, 3}, {5, 0}}
	m, err = Rows(f, 2, []byte{1, 2, 3, 0}, rows, 1)
	if err != api.OK || !slices.Equal(m.Wrong(), []int{1, 2}) {
		t.Fatalf("of two columns: %v, %d", m.Wrong(), err)
	}
	for x, want := range [][]byte{{5, 0}, {6, 1}, {3, 2}, {0, 3}, {9, 4}} {
		if got := m.At(byte(x)); !bytes.Equal(got, want) {
			t.Errorf("of two columns at %d: %v, not %v", x, got, want)
		}
	}
	// Where the second column isn't right, there is nothing.
	rows[0][1] = 77
	if m, err := Rows(f, 2, []byte{1, 2, 3, 0}, rows, 1); err != api.ErrCorrupt || m != nil {
		t.Errorf("of a column with two wrong ones: %v, %d", m, err)
	}
}

func TestRowsOfNoBytes(t *testing.T) {
	f := field.New()
	for _, rows := range [][][]byte{{nil}, {{}, nil}, {nil, nil, nil, {}}} {
		xs := []byte{4, 0, 9, 3}[:len(rows)]
		m, err := Rows(f, 1, xs, rows, 0)
		if err != api.OK || m == nil || len(m.At(4)) != 0 || len(m.At(200)) != 0 || len(m.Wrong()) != 0 {
			t.Errorf("of %d rows: %v, %d", len(rows), m, err)
		}
	}
}

// TestRows: of all shapes, with whole rows wrong, and with wrong ones at other places in each column.
func TestRows(t *testing.T) {
	f := field.New()
	r := rand.New(rand.NewSource(4))
	for _, c := range shapes {
		radius := (c.m - c.t) / 2
		for round := range 4 {
			size := 1 + r.Intn(4)
			xs, ps := places(r, c.m), [][]byte{}
			for range size {
				ps = append(ps, some(r, c.t))
			}
			rows := split(ps, xs)
			wrong := make([]int, c.m)
			chosen := r.Perm(c.m)[:radius]
			for i := range size {
				if round%2 == 1 {
					chosen = r.Perm(c.m)[:r.Intn(radius+1)]
				}
				for _, k := range chosen {
					rows[k][i] ^= byte(1 + r.Intn(255))
					wrong[k]++
				}
			}
			m, err := Rows(f, c.t, xs, rows, radius+round/2)
			if err != api.OK {
				t.Fatalf("Rows of %d places, t = %d: %d", c.m, c.t, err)
			}
			want := []int{}
			for k, n := range wrong {
				if n > 0 {
					want = append(want, k)
				}
			}
			if got := m.Wrong(); !slices.Equal(got, want) {
				t.Fatalf("Rows of %d places, t = %d: wrong %v, not %v", c.m, c.t, got, want)
			}
			for x := range 256 {
				if got, want := m.At(byte(x)), split(ps, []byte{byte(x)})[0]; !bytes.Equal(got, want) {
					t.Fatalf("Rows of %d places, t = %d, at %d: %v, not %v", c.m, c.t, x, got, want)
				}
			}
		}
	}
}

// TestRowsOfABlock: of the size that shares have.
func TestRowsOfABlock(t *testing.T) {
	f := field.New()
	r := rand.New(rand.NewSource(5))
	ps := [][]byte{}
	for range api.ShareSize {
		ps = append(ps, some(r, 3))
	}
	xs := []byte{1, 2, 3, 4, 5, 6, 7, 8, 9}
	rows := split(ps, xs)
	rows[7], rows[2], rows[4] = some(r, api.ShareSize), some(r, api.ShareSize), make([]byte, api.ShareSize)
	m, err := Rows(f, 3, xs, rows, 3)
	if err != api.OK || !slices.Equal(m.Wrong(), []int{2, 4, 7}) {
		t.Fatalf("three wrong: %v, %d", m.Wrong(), err)
	}
	for _, x := range []byte{0, 1, 3, 5, 8, 9, 255} {
		if got, want := m.At(x), split(ps, []byte{x})[0]; !bytes.Equal(got, want) {
			t.Errorf("three wrong, at %d: %v, not %v", x, got, want)
		}
	}
	if m, err := Rows(f, 3, xs, rows, 2); err != api.ErrCorrupt || m != nil {
		t.Errorf("three wrong, up to 2: %v, %d", m, err)
	}
}

// TestRowsAndColumns: rows are told just when each of their columns is.
func TestRowsAndColumns(t *testing.T) {
	f := field.New()
	r := rand.New(rand.NewSource(6))
	told := map[api.Errno]int{}
	for range 2000 {
		m, e := 1+r.Intn(7), r.Intn(4)
		least := 1 + r.Intn(m)
		xs := places(r, m)
		rows := split([][]byte{some(r, least), some(r, least), some(r, least)}, xs)
		for range r.Intn(4) {
			rows[r.Intn(m)][r.Intn(3)] ^= byte(r.Intn(256))
		}
		want, wrong := api.OK, make([]int, m)
		ps := [][]byte{}
		for i := range 3 {
			ys := []byte{}
			for _, row := range rows {
				ys = append(ys, row[i])
			}
			p, err := Column(f, least, xs, ys, e)
			if err != api.OK {
				want = err
			}
			ps = append(ps, p)
		}
		got, err := Rows(f, least, xs, rows, e)
		told[err]++
		if err != want || (got == nil) != (err != api.OK) {
			t.Fatalf("Rows %v at %v, t = %d, up to %d: %d, not %d", rows, xs, least, e, err, want)
		}
		if got == nil {
			continue
		}
		for k, row := range split(ps, xs) {
			if !bytes.Equal(row, rows[k]) {
				wrong[k]++
			}
			if slices.Contains(got.Wrong(), k) != (wrong[k] > 0) || !bytes.Equal(got.At(xs[k]), row) {
				t.Fatalf("Rows %v at %v, t = %d, up to %d: %v at %d, wrong %v", rows, xs, least, e, got.At(xs[k]), xs[k], got.Wrong())
			}
		}
		if !slices.IsSorted(got.Wrong()) || len(slices.Compact(got.Wrong())) < len(got.Wrong()) {
			t.Fatalf("wrong places aren't rising: %v", got.Wrong())
		}
	}
	if told[api.OK] < 300 || told[api.ErrCorrupt] < 300 {
		t.Errorf("too few of each kind: %v", told)
	}
}

func TestWrongRows(t *testing.T) {
	for _, c := range wrongArguments() {
		rows := make([][]byte, c.ys)
		for i := range rows {
			rows[i] = []byte{0, byte(i * i)}
		}
		if got, err := Rows(c.f, c.t, c.xs, rows, c.e); err != c.err || got != nil {
			t.Errorf("Rows, %s: %v, %d, not %d", c.what, got, err, c.err)
		}
		// The chapter names the other errors ahead of the form's.
		for i := range rows {
			rows[i] = make([]byte, i%3)
		}
		if got, err := Rows(c.f, c.t, c.xs, rows, c.e); err != c.err || got != nil {
			t.Errorf("Rows of unlike lengths, %s: %v, %d, not %d", c.what, got, err, c.err)
		}
		if got, err := Rows(c.f, c.t, c.xs, make([][]byte, c.ys), c.e); err != c.err || got != nil {
			t.Errorf("Rows of no bytes, %s: %v, %d, not %d", c.what, got, err, c.err)
		}
	}
}

func TestRowsOfUnlikeLengths(t *testing.T) {
	f := field.New()
	for _, rows := range [][][]byte{
		{{1}, {1, 2}}, {{1, 2}, {1}}, {nil, {1}}, {{1}, {}}, {{1}, {1}, {1}, {1, 2}}, {{1}, {1}, {1}, nil}, {{1}, {1, 2}, {1}},
		// Nor are they right.
		{{1, 7}, {2, 8}, {3}}, {{1, 2}, {9, 9}, {4, 4, 4}},
	} {
		for _, least := range []int{1, 2} {
			for _, e := range []int{0, 1, 5} {
				if got, err := Rows(f, least, []byte{1, 2, 3, 4}[:len(rows)], rows, e); err != api.ErrForm || got != nil {
					t.Errorf("Rows %v: %v, %d", rows, got, err)
				}
			}
		}
	}
}

func TestNil(t *testing.T) {
	var none *Mended
	for x := range 256 {
		if got := none.At(byte(x)); len(got) != 0 {
			t.Errorf("At %d of none: %v", x, got)
		}
	}
	if got := none.Wrong(); len(got) != 0 {
		t.Errorf("Wrong of none: %v", got)
	}
	empty := &Mended{}
	if len(empty.At(3)) != 0 || len(empty.Wrong()) != 0 {
		t.Errorf("of one that Rows didn't make: %v, %v", empty.At(3), empty.Wrong())
	}
}

// TestOfAFieldThatIsNone: it comes to its end all the same.
func TestOfAFieldThatIsNone(t *testing.T) {
	r := rand.New(rand.NewSource(7))
	for m := 1; m < 256; m += 23 {
		for _, least := range []int{1, m/2 + 1, m} {
			Column(&field.Field{}, least, places(r, m), some(r, m), m)
		}
	}
}

// P10.3

// TestEachChangeOfOne: however one value is changed.
func TestEachChangeOfOne(t *testing.T) {
	f := field.New()
	r := rand.New(rand.NewSource(8))
	for _, c := range []struct {
		m, t int
		want api.Errno
	}{
		{3, 1, api.OK}, {4, 2, api.OK}, {5, 3, api.OK}, {6, 1, api.OK}, {7, 5, api.OK},
		// Here twice one is one more than may be.
		{2, 1, api.ErrCorrupt}, {3, 2, api.ErrCorrupt}, {4, 3, api.ErrCorrupt}, {8, 7, api.ErrCorrupt},
	} {
		p, xs := some(r, c.t), places(r, c.m)
		ys := values(p, xs)
		want := cut(p)
		if c.want != api.OK {
			want = nil
		}
		for i := range ys {
			for change := 1; change < 256; change++ {
				ys[i] ^= byte(change)
				if got, err := Column(f, c.t, xs, ys, 1); err != c.want || !bytes.Equal(got, want) {
					t.Fatalf("Column of %v at %v, t = %d: %v, %d, not %v, %d", ys, xs, c.t, got, err, want, c.want)
				}
				ys[i] ^= byte(change)
			}
		}
	}
}

// TestEachChoiceOfWrongOnes: whichever values are changed, up to as many as may be, and one more.
func TestEachChoiceOfWrongOnes(t *testing.T) {
	f := field.New()
	r := rand.New(rand.NewSource(9))
	for m := 1; m <= 8; m++ {
		for least := 1; least <= m; least++ {
			for e := 0; 2*e <= m-least+1; e++ {
				for _, wrong := range choices(m, e) {
					p, xs := some(r, least), places(r, m)
					ys := spoilt(r, values(p, xs), wrong)
					got, err := Column(f, least, xs, ys, e)
					mends := 2*e <= m-least
					if mends && (err != api.OK || !bytes.Equal(got, cut(p))) {
						t.Fatalf("Column of %v at %v, t = %d, wrong %v: %v, %d, not %v", ys, xs, least, wrong, got, err, p)
					}
					if !mends && (err != api.ErrCorrupt || len(got) != 0) {
						t.Fatalf("Column of %v at %v, t = %d, wrong %v: %v, %d", ys, xs, least, wrong, got, err)
					}
				}
			}
		}
	}
}

// rooted: the polynomial that is 0 at these places, and nowhere else.
func rooted(xs []byte) []byte {
	out := []byte{1}
	for _, x := range xs {
		next := make([]byte, len(out)+1)
		for k, c := range out {
			next[k] ^= field.Slow(c, x)
			next[k+1] ^= c
		}
		out = next
	}
	return out
}

// TestNeverAnotherOne: nor of values of which as many as can be are another one's.
func TestNeverAnotherOne(t *testing.T) {
	f := field.New()
	r := rand.New(rand.NewSource(10))
	for _, c := range shapes {
		p, xs := some(r, c.t), places(r, c.m)
		// They have their values in common at t - 1 places, which is the most that two have.
		other := slices.Clone(p)
		for k, x := range rooted(xs[:c.t-1]) {
			other[k] ^= x
		}
		ys, others := values(p, xs), values(other, xs)
		far := c.m - c.t + 1
		for e := max(far/2-2, 0); e <= far; e++ {
			if e > (far+1)/2+2 && e < far {
				continue
			}
			mixed := slices.Concat(ys[:c.m-e], others[c.m-e:])
			got, err := Column(f, c.t, xs, mixed, math.MaxInt)
			want, wantErr := cut(p), api.OK
			if 2*e == far {
				want, wantErr = nil, api.ErrCorrupt
			}
			if 2*e > far {
				want = cut(other)
			}
			if err != wantErr || !bytes.Equal(got, want) {
				t.Fatalf("Column of %d places, t = %d, %d of another one: %v, %d, not %v, %d", c.m, c.t, e, got, err, want, wantErr)
			}
		}
	}
}

func TestMemory(t *testing.T) {
	f := field.New()
	oldField := *f
	// With spare room, that is filled too.
	wholeXs, wholeYs := []byte{1, 2, 3, 0, 41, 42, 43, 44}, []byte{6, 3, 88, 5, 51, 52, 53, 54}
	wholeRows := [][]byte{{6, 1, 33}, {3, 2, 34}, {88, 3, 35}, {5, 0, 36}, {9, 9, 37}, {8, 8, 38}}
	for i := range wholeRows {
		wholeRows[i] = wholeRows[i][:2]
	}
	xs, ys, rows := wholeXs[:4], wholeYs[:4], wholeRows[:4]
	oldXs, oldYs, oldRows := slices.Clone(wholeXs), slices.Clone(wholeYs), [][]byte{}
	for _, row := range wholeRows {
		oldRows = append(oldRows, slices.Clone(row[:cap(row)]))
	}
	unchanged := func(what string) {
		for i, row := range wholeRows {
			if !bytes.Equal(row[:cap(row)], oldRows[i]) {
				t.Fatalf("%s changes a row", what)
			}
		}
		if !bytes.Equal(wholeXs, oldXs) || !bytes.Equal(wholeYs, oldYs) || *f != oldField {
			t.Fatalf("%s changes what is handed in", what)
		}
	}
	first, _ := Column(f, 2, xs, ys, 1)
	second, err := Column(f, 2, xs, ys, 1)
	unchanged("Column")
	clear(first[:cap(first)])
	if err != api.OK || !bytes.Equal(second, []byte{5, 3}) {
		t.Errorf("Column tells the same memory twice: %v, %d", second, err)
	}
	m, err := Rows(f, 2, xs, rows, 1)
	twin, _ := Rows(f, 2, xs, rows, 1)
	unchanged("Rows")
	told := func() bool {
		return bytes.Equal(m.At(2), []byte{3, 2}) && bytes.Equal(m.At(3), []byte{0, 3}) && slices.Equal(m.Wrong(), []int{2})
	}
	if err != api.OK || !told() {
		t.Fatalf("Rows: %v, %v, %v, %d", m.At(2), m.At(3), m.Wrong(), err)
	}
	for _, out := range [][]byte{m.At(2), m.At(3), m.At(0), twin.At(2), twin.At(0)} {
		clear(out[:cap(out)])
	}
	wrong, again := m.Wrong(), m.Wrong()
	clear(wrong[:cap(wrong)])
	clear(twin.Wrong())
	if !told() || !slices.Equal(again, []int{2}) {
		t.Errorf("answers share memory: %v, %v, %v", m.At(2), m.At(3), m.Wrong())
	}
	unchanged("At")
	// Nothing that was handed in is kept.
	*f = field.Field{}
	clear(wholeXs)
	for _, row := range rows {
		clear(row)
	}
	clear(rows)
	if !told() {
		t.Errorf("Rows keeps what is handed in: %v, %v, %v", m.At(2), m.At(3), m.Wrong())
	}
}

// TestAtOfNoughts: a polynomial 0 has its row too, at each place.
func TestAtOfNoughts(t *testing.T) {
	f := field.New()
	m, err := Rows(f, 2, []byte{1, 2, 3, 4}, [][]byte{{0, 0, 7}, {0, 0, 7}, {0, 9, 7}, {0, 0, 7}}, 1)
	if err != api.OK || !slices.Equal(m.Wrong(), []int{2}) {
		t.Fatalf("Rows: %v, %d", m.Wrong(), err)
	}
	for x := range 256 {
		if got := m.At(byte(x)); !bytes.Equal(got, []byte{0, 0, 7}) {
			t.Errorf("At %d: %v", x, got)
		}
	}
}
