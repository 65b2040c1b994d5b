package matrix

import (
	"bytes"
	"math"
	"math/rand"
	"slices"
	"strconv"
	"testing"

	"largesse/api"
	"largesse/field"
)

// some: rows of numbers, of which many are 0 or 1 if few are wanted.
func some(r *rand.Rand, rows, columns, below int) [][]byte {
	out := make([][]byte, rows)
	for i := range out {
		out[i] = column(r, columns, below)
	}
	return out
}

// column: numbers below a bound.
func column(r *rand.Rand, n, below int) []byte {
	out := make([]byte, n)
	for i := range out {
		out[i] = byte(r.Intn(below))
	}
	return out
}

// places: so many unlike numbers.
func places(r *rand.Rand, n int) []byte {
	out := make([]byte, n)
	for i, x := range r.Perm(256)[:n] {
		out[i] = byte(x)
	}
	return out
}

// noughts: so many rows of so many noughts.
func noughts(rows, columns int) [][]byte {
	out := make([][]byte, rows)
	for i := range out {
		out[i] = make([]byte, columns)
	}
	return out
}

// ones: ones on the way down.
func ones(n int) [][]byte {
	out := noughts(n, n)
	for i := range out {
		out[i][i] = 1
	}
	return out
}

// times: the product, number by number, without tables.
func times(a, b [][]byte) [][]byte {
	out := noughts(len(a), len(b[0]))
	for i := range out {
		for j := range out[i] {
			for k := range b {
				out[i][j] ^= field.Slow(a[i][k], b[k][j])
			}
		}
	}
	return out
}

// upright: a column as rows of one number.
func upright(v []byte) [][]byte {
	out := [][]byte{}
	for _, x := range v {
		out = append(out, []byte{x})
	}
	return out
}

// determinant: by the first row's numbers, and what is left without their columns.
func determinant(rows [][]byte) byte {
	if len(rows) == 0 {
		return 1
	}
	sum := byte(0)
	for j, x := range rows[0] {
		left := [][]byte{}
		for _, row := range rows[1:] {
			left = append(left, slices.Concat(row[:j], row[j+1:]))
		}
		sum ^= field.Slow(x, determinant(left))
	}
	return sum
}

// choices: of so many things so many, rising.
func choices(n, of int) [][]int {
	if n == 0 {
		return [][]int{nil}
	}
	out := [][]int{}
	for last := range of {
		for _, c := range choices(n-1, last) {
			out = append(out, append(slices.Clone(c), last))
		}
	}
	return out
}

// rank: the size of the greatest square part whose determinant isn't 0.
func rank(rows [][]byte) int {
	for n := min(len(rows), len(rows[0])); n > 0; n-- {
		for _, down := range choices(n, len(rows)) {
			for _, along := range choices(n, len(rows[0])) {
				part := noughts(n, n)
				for i := range part {
					for j := range part[i] {
						part[i][j] = rows[down[i]][along[j]]
					}
				}
				if determinant(part) != 0 {
					return n
				}
			}
		}
	}
	return 0
}

// first: the first columns of each row.
func first(rows [][]byte, columns int) [][]byte {
	out := [][]byte{}
	for _, row := range rows {
		out = append(out, row[:columns])
	}
	return out
}

// beside: each row, and the number of a column behind it.
func beside(rows [][]byte, v []byte) [][]byte {
	out := [][]byte{}
	for i, row := range rows {
		out = append(out, slices.Concat(row, v[i:i+1]))
	}
	return out
}

// of: a matrix of rows that can be.
func of(t *testing.T, rows [][]byte) *Matrix {
	t.Helper()
	m, err := New(rows)
	if err != api.OK || m == nil {
		t.Fatalf("New of %v: %d", rows, err)
	}
	return m
}

// all: every row of a matrix.
func all(m *Matrix) [][]byte {
	out := [][]byte{}
	n, _ := m.Size()
	for i := range n {
		out = append(out, m.Row(i))
	}
	return out
}

func same(a, b [][]byte) bool { return slices.EqualFunc(a, b, bytes.Equal) }

// check: a matrix that has these rows, beside no error.
func check(t *testing.T, what string, m *Matrix, err api.Errno, want [][]byte) {
	t.Helper()
	rows, columns := m.Size()
	if err != api.OK || rows != len(want) || columns != len(want[0]) || !same(all(m), want) {
		t.Fatalf("%s: %v of %d rows and %d columns, %d, not %v", what, all(m), rows, columns, err, want)
	}
}

// refused: no matrix, beside that error.
func refused(t *testing.T, what string, m *Matrix, err, want api.Errno) {
	t.Helper()
	if m != nil || err != want {
		t.Errorf("%s: %v, %d, not %d", what, m, err, want)
	}
}

// absent: matrices that aren't there.
func absent() map[string]*Matrix {
	return map[string]*Matrix{"nil": nil, "not made": {}}
}

// P4.1

func TestNew(t *testing.T) {
	r := rand.New(rand.NewSource(1))
	for _, n := range []int{1, 2, 3, 17, 63, 64} {
		for _, c := range []int{1, 2, 5, 63, 64} {
			rows := some(r, n, c, 256)
			m, err := New(rows)
			check(t, "New", m, err, rows)
		}
	}
	m, err := New([][]byte{{1, 2, 3}, {4, 5, 6}})
	check(t, "New", m, err, [][]byte{{1, 2, 3}, {4, 5, 6}})
}

func TestNewOfWhatCanNotBe(t *testing.T) {
	for _, c := range []struct {
		what string
		rows [][]byte
		want api.Errno
	}{
		{"nil", nil, api.ErrRange},
		{"no rows", [][]byte{}, api.ErrRange},
		{"no columns", noughts(3, 0), api.ErrRange},
		{"a nil row", [][]byte{nil}, api.ErrRange},
		{"65 rows", noughts(65, 3), api.ErrRange},
		{"65 columns", noughts(3, 65), api.ErrRange},
		{"65 rows and columns", noughts(65, 65), api.ErrRange},
		{"a shorter row", [][]byte{{1, 2}, {3}}, api.ErrArg},
		{"a longer row", [][]byte{{1}, {2}, {3, 4}}, api.ErrArg},
		{"a row too long behind the first", append(noughts(1, 64), noughts(1, 65)...), api.ErrArg},
		{"no columns behind the first row", [][]byte{{1, 2}, {3, 4}, {}}, api.ErrArg},
		{"no columns, and unlike", [][]byte{{}, {1}}, api.ErrRange},
		{"65 columns, and unlike", append(noughts(1, 65), []byte{1}), api.ErrRange},
		{"65 rows, and unlike", append(noughts(64, 2), []byte{1}), api.ErrRange},
	} {
		m, err := New(c.rows)
		refused(t, "New of "+c.what, m, err, c.want)
	}
}

// outside: numbers of which there can't be as many rows, or columns.
func outside() []int {
	return []int{0, -1, 65, 66, 255, 256, 257, -64, math.MinInt32, math.MaxInt32, math.MinInt, math.MaxInt}
}

func TestIdentity(t *testing.T) {
	for n := 1; n <= 64; n++ {
		m, err := Identity(n)
		check(t, "Identity", m, err, ones(n))
	}
	for _, n := range outside() {
		m, err := Identity(n)
		refused(t, "Identity of "+strconv.Itoa(n), m, err, api.ErrRange)
	}
}

func TestVandermonde(t *testing.T) {
	f := field.New()
	for _, c := range []struct {
		xs      []byte
		columns int
		want    [][]byte
	}{
		{[]byte{1, 2}, 2, [][]byte{{1, 1}, {1, 2}}},
		{[]byte{0}, 3, [][]byte{{1, 0, 0}}},
		{[]byte{2, 0, 255}, 1, [][]byte{{1}, {1}, {1}}},
		{[]byte{3, 3}, 4, [][]byte{{1, 3, 5, 15}, {1, 3, 5, 15}}},
	} {
		m, err := Vandermonde(f, c.xs, c.columns)
		check(t, "Vandermonde", m, err, c.want)
	}
	r := rand.New(rand.NewSource(2))
	for _, n := range []int{1, 7, 63, 64} {
		for _, columns := range []int{1, 6, 63, 64} {
			xs := column(r, n, 256)
			want := noughts(n, columns)
			for i, x := range xs {
				for j, power := 0, byte(1); j < columns; j, power = j+1, field.Slow(power, x) {
					want[i][j] = power
				}
			}
			m, err := Vandermonde(f, xs, columns)
			check(t, "Vandermonde", m, err, want)
		}
	}
}

func TestVandermondeOfWhatCanNotBe(t *testing.T) {
	f := field.New()
	for _, n := range outside() {
		m, err := Vandermonde(f, []byte{1, 2}, n)
		refused(t, "Vandermonde", m, err, api.ErrRange)
		m, err = Vandermonde(nil, []byte{1, 2}, n)
		refused(t, "Vandermonde without a field", m, err, api.ErrArg)
	}
	for _, xs := range [][]byte{nil, {}, make([]byte, 65), make([]byte, 256)} {
		m, err := Vandermonde(f, xs, 2)
		refused(t, "Vandermonde", m, err, api.ErrRange)
		m, err = Vandermonde(nil, xs, 2)
		refused(t, "Vandermonde without a field", m, err, api.ErrArg)
	}
	m, err := Vandermonde(nil, []byte{1}, 1)
	refused(t, "Vandermonde without a field", m, err, api.ErrArg)
}

func TestCauchy(t *testing.T) {
	f := field.New()
	m, err := Cauchy(f, []byte{0, 1}, []byte{2, 3})
	check(t, "Cauchy", m, err, [][]byte{{141, 246}, {246, 141}})
	m, err = Cauchy(f, []byte{82}, []byte{0, 1, 83})
	check(t, "Cauchy", m, err, [][]byte{{5, 202, 1}})
	r := rand.New(rand.NewSource(3))
	for _, n := range []int{1, 2, 5, 63, 64} {
		for _, columns := range []int{1, 4, 64} {
			at := places(r, n+columns)
			xs, ys := at[:n], at[n:]
			m, err := Cauchy(f, xs, ys)
			if rows, c := m.Size(); err != api.OK || rows != n || c != columns {
				t.Fatalf("Cauchy of %d and %d: %d rows and %d columns, %d", n, columns, rows, c, err)
			}
			for i, row := range all(m) {
				for j, x := range row {
					if field.Slow(x, xs[i]^ys[j]) != 1 {
						t.Fatalf("Cauchy has %d for %d and %d", x, xs[i], ys[j])
					}
				}
			}
		}
	}
}

func TestCauchyOfWhatCanNotBe(t *testing.T) {
	f := field.New()
	many := places(rand.New(rand.NewSource(4)), 130)
	ends := slices.Clone(many[:128])
	ends[127] = ends[0]
	for _, c := range []struct {
		what   string
		xs, ys []byte
		want   api.Errno
	}{
		{"none", nil, nil, api.ErrRange},
		{"no xs", []byte{}, []byte{1}, api.ErrRange},
		{"no ys", []byte{1}, []byte{}, api.ErrRange},
		{"65 xs", many[:65], many[65:66], api.ErrRange},
		{"65 ys", many[:1], many[1:66], api.ErrRange},
		{"65 and 65", many[:65], many[65:], api.ErrRange},
		{"65 and 63, fewer than two times 64", many[:65], many[65:128], api.ErrRange},
		{"no ys, and two xs the same", []byte{1, 1}, nil, api.ErrRange},
		{"65 ys the same", []byte{1}, make([]byte, 65), api.ErrRange},
		{"two xs the same", []byte{4, 7, 4}, []byte{1, 2}, api.ErrSame},
		{"two ys the same", []byte{1, 2}, []byte{0, 9, 0}, api.ErrSame},
		{"an x that is a y", []byte{1, 2}, []byte{3, 1}, api.ErrSame},
		{"one of each, the same", []byte{0}, []byte{0}, api.ErrSame},
		{"the ends the same", ends[:64], ends[64:], api.ErrSame},
		{"all the same", make([]byte, 64), make([]byte, 64), api.ErrSame},
	} {
		m, err := Cauchy(f, c.xs, c.ys)
		refused(t, "Cauchy of "+c.what, m, err, c.want)
		m, err = Cauchy(nil, c.xs, c.ys)
		refused(t, "Cauchy without a field of "+c.what, m, err, api.ErrArg)
	}
	m, err := Cauchy(nil, []byte{1}, []byte{2})
	refused(t, "Cauchy without a field", m, err, api.ErrArg)
}

func TestRow(t *testing.T) {
	m := of(t, [][]byte{{1, 2, 3}, {4, 5, 6}})
	if !bytes.Equal(m.Row(0), []byte{1, 2, 3}) || !bytes.Equal(m.Row(1), []byte{4, 5, 6}) {
		t.Errorf("rows are %v, %v", m.Row(0), m.Row(1))
	}
	for _, i := range []int{-1, 2, 3, 64, 256, -2, math.MinInt, math.MaxInt} {
		if row := m.Row(i); len(row) != 0 {
			t.Errorf("Row %d of two: %v", i, row)
		}
	}
}

func TestPick(t *testing.T) {
	m := of(t, [][]byte{{1, 2}, {3, 4}, {5, 6}})
	for _, c := range []struct {
		rows []int
		want [][]byte
	}{
		{[]int{0}, [][]byte{{1, 2}}},
		{[]int{2}, [][]byte{{5, 6}}},
		{[]int{0, 1, 2}, [][]byte{{1, 2}, {3, 4}, {5, 6}}},
		{[]int{2, 0}, [][]byte{{5, 6}, {1, 2}}},
		{[]int{1, 1, 0, 1}, [][]byte{{3, 4}, {3, 4}, {1, 2}, {3, 4}}},
	} {
		p, err := m.Pick(c.rows...)
		check(t, "Pick", p, err, c.want)
	}
	p, err := m.Pick(make([]int, 64)...)
	check(t, "Pick of 64", p, err, slices.Repeat([][]byte{{1, 2}}, 64))
	for _, rows := range [][]int{
		nil, {}, {-1}, {3}, {0, 1, 3}, {3, 0}, {0, -1, 2}, {math.MaxInt}, {math.MinInt, 0},
		make([]int, 65), make([]int, 1000), slices.Repeat([]int{9}, 65),
	} {
		p, err := m.Pick(rows...)
		refused(t, "Pick", p, err, api.ErrRange)
	}
}

func TestWithoutAMatrix(t *testing.T) {
	f := field.New()
	there := of(t, [][]byte{{1}})
	for what, m := range absent() {
		if rows, columns := m.Size(); rows != 0 || columns != 0 {
			t.Errorf("Size of one that is %s: %d, %d", what, rows, columns)
		}
		for _, i := range []int{-1, 0, 1, math.MaxInt} {
			if row := m.Row(i); len(row) != 0 {
				t.Errorf("Row of one that is %s: %v", what, row)
			}
		}
		for _, rows := range [][]int{nil, {0}, {-1}, make([]int, 65)} {
			p, err := m.Pick(rows...)
			refused(t, "Pick of one that is "+what, p, err, api.ErrArg)
		}
		for _, g := range []*field.Field{f, nil} {
			p, err := m.Mul(g, there)
			refused(t, "Mul of one that is "+what, p, err, api.ErrArg)
			p, err = there.Mul(g, m)
			refused(t, "Mul by one that is "+what, p, err, api.ErrArg)
			p, err = m.Mul(g, m)
			refused(t, "Mul of two that are "+what, p, err, api.ErrArg)
			p, err = m.Inverse(g)
			refused(t, "Inverse of one that is "+what, p, err, api.ErrArg)
			for _, v := range [][]byte{nil, {1}} {
				if out, err := m.Times(g, v); err != api.ErrArg || len(out) != 0 {
					t.Errorf("Times of one that is %s: %v, %d", what, out, err)
				}
				if out, err := m.Solve(g, v); err != api.ErrArg || len(out) != 0 {
					t.Errorf("Solve of one that is %s: %v, %d", what, out, err)
				}
			}
			if n := m.Rank(g); n != 0 {
				t.Errorf("Rank of one that is %s: %d", what, n)
			}
		}
	}
}

func TestWithoutAField(t *testing.T) {
	for _, rows := range [][][]byte{{{1}}, {{0}}, {{1, 2, 3}}, {{1, 1}, {1, 1}}, ones(3)} {
		m := of(t, rows)
		p, err := m.Mul(nil, m)
		refused(t, "Mul", p, err, api.ErrArg)
		p, err = m.Inverse(nil)
		refused(t, "Inverse", p, err, api.ErrArg)
		for _, v := range [][]byte{nil, {1}, {1, 2}, {1, 2, 3}} {
			if out, err := m.Times(nil, v); err != api.ErrArg || len(out) != 0 {
				t.Errorf("Times: %v, %d", out, err)
			}
			if out, err := m.Solve(nil, v); err != api.ErrArg || len(out) != 0 {
				t.Errorf("Solve: %v, %d", out, err)
			}
		}
		if n := m.Rank(nil); n != 0 {
			t.Errorf("Rank: %d", n)
		}
	}
}

// P4.2

func TestMulAndTimes(t *testing.T) {
	f := field.New()
	m, o := of(t, [][]byte{{1, 2}, {0, 87}, {3, 0}}), of(t, [][]byte{{1, 0}, {5, 131}})
	p, err := m.Mul(f, o)
	check(t, "Mul", p, err, [][]byte{{11, 29}, {field.Slow(87, 5), 193}, {3, 0}})
	v, err := m.Times(f, []byte{5, 131})
	if err != api.OK || !bytes.Equal(v, []byte{5 ^ field.Slow(2, 131), 193, 15}) {
		t.Errorf("Times: %v, %d", v, err)
	}
	r := rand.New(rand.NewSource(5))
	for _, size := range [][3]int{{1, 1, 1}, {1, 5, 1}, {5, 1, 5}, {2, 3, 4}, {4, 3, 2}, {64, 64, 64}, {64, 1, 64}, {1, 64, 1}, {63, 64, 7}} {
		for _, below := range []int{2, 256} {
			a, b := some(r, size[0], size[1], below), some(r, size[1], size[2], below)
			m, o := of(t, a), of(t, b)
			p, err := m.Mul(f, o)
			check(t, "Mul", p, err, times(a, b))
			v := column(r, size[1], below)
			got, err := m.Times(f, v)
			if err != api.OK || !same(upright(got), times(a, upright(v))) {
				t.Fatalf("Times of %v and %v: %v, %d", a, v, got, err)
			}
			one, _ := Identity(size[1])
			p, err = m.Mul(f, one)
			check(t, "Mul by ones", p, err, a)
			p, err = one.Mul(f, o)
			check(t, "Mul of ones", p, err, b)
		}
	}
}

func TestSizesThatDoNotFit(t *testing.T) {
	f := field.New()
	m := of(t, [][]byte{{1, 2, 3}, {4, 5, 6}})
	for _, rows := range [][][]byte{{{1, 2, 3}}, {{1, 2, 3}, {4, 5, 6}}, {{1, 2}, {3, 4}}, noughts(4, 2), noughts(64, 64)} {
		p, err := m.Mul(f, of(t, rows))
		refused(t, "Mul", p, err, api.ErrArg)
	}
	for _, n := range []int{0, 1, 2, 4, 64, 1000} {
		if out, err := m.Times(f, make([]byte, n)); err != api.ErrArg || len(out) != 0 {
			t.Errorf("Times, %d for 3: %v, %d", n, out, err)
		}
	}
	for _, n := range []int{0, 1, 3, 4, 64, 1000} {
		if out, err := m.Solve(f, make([]byte, n)); err != api.ErrArg || len(out) != 0 {
			t.Errorf("Solve, %d for 2: %v, %d", n, out, err)
		}
	}
	for _, rows := range [][][]byte{{{1, 2}}, {{1}, {2}}, noughts(2, 3), noughts(3, 2), noughts(64, 63), noughts(1, 64)} {
		p, err := of(t, rows).Inverse(f)
		refused(t, "Inverse", p, err, api.ErrArg)
	}
}

// small: rows of few numbers, of which many are sums of multiples of others.
func small(r *rand.Rand) [][]byte {
	return some(r, 1+r.Intn(4), 1+r.Intn(4), []int{1, 2, 2, 3, 256}[r.Intn(5)])
}

func TestRank(t *testing.T) {
	f := field.New()
	for _, c := range []struct {
		rows [][]byte
		want int
	}{
		{[][]byte{{0}}, 0},
		{[][]byte{{7}}, 1},
		{[][]byte{{1, 1}, {1, 1}}, 1},
		{[][]byte{{0, 1}, {1, 0}}, 2},
		{[][]byte{{0, 0, 0}, {0, 0, 9}}, 1},
		{[][]byte{{1, 2, 3}, {2, 4, 6}, {0, 0, 1}}, 2},
		{[][]byte{{1, 2, 3}, {4, 5, 6}, {5, 7, 5}}, 2},
		{[][]byte{{87}, {0}, {131}}, 1},
		{noughts(64, 64), 0},
		{noughts(1, 64), 0},
		{ones(64), 64},
	} {
		if got := of(t, c.rows).Rank(f); got != c.want {
			t.Errorf("Rank of %v: %d, not %d", c.rows, got, c.want)
		}
	}
	r := rand.New(rand.NewSource(6))
	for range 400 {
		rows := small(r)
		if got, want := of(t, rows).Rank(f), rank(rows); got != want {
			t.Fatalf("Rank of %v: %d, not %d", rows, got, want)
		}
	}
}

// TestRankOfProducts: what goes through n columns has at most n rows of its own, and Vandermonde's have just as many.
func TestRankOfProducts(t *testing.T) {
	f := field.New()
	r := rand.New(rand.NewSource(7))
	for _, n := range []int{1, 2, 31, 63, 64} {
		tall, _ := Vandermonde(f, places(r, 64), n)
		back, _ := Vandermonde(f, places(r, 64), n)
		flat := noughts(n, 64)
		for i, row := range all(back) {
			for j, x := range row {
				flat[j][i] = x
			}
		}
		p, err := tall.Mul(f, of(t, flat))
		if got := p.Rank(f); err != api.OK || got != n {
			t.Errorf("Rank of what goes through %d columns: %d, %d", n, got, err)
		}
	}
}

func TestInverse(t *testing.T) {
	f := field.New()
	for _, c := range []struct{ rows, want [][]byte }{
		{[][]byte{{1}}, [][]byte{{1}}},
		{[][]byte{{83}}, [][]byte{{202}}},
		{[][]byte{{0, 1}, {1, 0}}, [][]byte{{0, 1}, {1, 0}}},
		{[][]byte{{0, 83}, {1, 0}}, [][]byte{{0, 1}, {202, 0}}},
		{[][]byte{{1, 5}, {0, 1}}, [][]byte{{1, 5}, {0, 1}}},
		{ones(64), ones(64)},
	} {
		m, err := of(t, c.rows).Inverse(f)
		check(t, "Inverse", m, err, c.want)
	}
	for _, rows := range [][][]byte{{{0}}, {{1, 1}, {1, 1}}, {{1, 2}, {0, 0}}, {{0, 1}, {0, 2}}, {{1, 2, 3}, {4, 5, 6}, {5, 7, 5}}, noughts(64, 64)} {
		m, err := of(t, rows).Inverse(f)
		refused(t, "Inverse", m, err, api.ErrZero)
	}
	r := rand.New(rand.NewSource(8))
	for range 400 {
		rows := small(r)
		n := min(len(rows), len(rows[0]))
		rows = first(rows[:n], n)
		m, err := of(t, rows).Inverse(f)
		if determinant(rows) == 0 {
			refused(t, "Inverse", m, err, api.ErrZero)
			continue
		}
		check(t, "what an inverse gives", m, err, all(m))
		if !same(times(all(m), rows), ones(n)) || !same(times(rows, all(m)), ones(n)) {
			t.Fatalf("Inverse of %v: %v", rows, all(m))
		}
	}
}

func TestSolve(t *testing.T) {
	f := field.New()
	for _, c := range []struct {
		rows    [][]byte
		v, want []byte
	}{
		{[][]byte{{2}}, []byte{6}, []byte{3}},
		{[][]byte{{0}}, []byte{0}, []byte{0}},
		{[][]byte{{1, 2}}, []byte{9}, []byte{9, 0}},
		{[][]byte{{0, 2}}, []byte{6}, []byte{0, 3}},
		{[][]byte{{0, 0, 1, 7, 1}}, []byte{5}, []byte{0, 0, 5, 0, 0}},
		{[][]byte{{1, 1, 1}, {1, 1, 0}}, []byte{5, 3}, []byte{3, 0, 6}},
		{[][]byte{{1, 1}, {1, 2}}, []byte{6, 5}, []byte{7, 1}},
		{[][]byte{{1, 2}, {2, 4}, {0, 0}}, []byte{3, 6, 0}, []byte{3, 0}},
		{noughts(3, 4), []byte{0, 0, 0}, []byte{0, 0, 0, 0}},
	} {
		got, err := of(t, c.rows).Solve(f, c.v)
		if err != api.OK || !bytes.Equal(got, c.want) {
			t.Errorf("Solve of %v and %v: %v, %d, not %v", c.rows, c.v, got, err, c.want)
		}
	}
	for _, c := range []struct {
		rows [][]byte
		v    []byte
	}{
		{[][]byte{{0}}, []byte{1}},
		{[][]byte{{1, 1}, {1, 1}}, []byte{1, 2}},
		{[][]byte{{1, 2}, {2, 4}, {0, 0}}, []byte{3, 6, 1}},
		{[][]byte{{1, 2}, {2, 4}, {0, 0}}, []byte{3, 5, 0}},
		{noughts(64, 64), append(make([]byte, 63), 1)},
		{[][]byte{{1}, {0}}, []byte{0, 255}},
	} {
		if got, err := of(t, c.rows).Solve(f, c.v); err != api.ErrZero || len(got) != 0 {
			t.Errorf("Solve of %v and %v: %v, %d", c.rows, c.v, got, err)
		}
	}
}

// TestSolveByRanks: there is a column where another one adds no rank; and it is 0 wherever a column of the matrix adds none to those ahead.
func TestSolveByRanks(t *testing.T) {
	f := field.New()
	r := rand.New(rand.NewSource(9))
	for range 600 {
		rows := small(r)
		v := column(r, len(rows), []int{2, 256}[r.Intn(2)])
		got, err := of(t, rows).Solve(f, v)
		if rank(beside(rows, v)) > rank(rows) {
			if err != api.ErrZero || len(got) != 0 {
				t.Fatalf("Solve of %v and %v: %v, %d", rows, v, got, err)
			}
			continue
		}
		if err != api.OK || len(got) != len(rows[0]) || !same(times(rows, upright(got)), upright(v)) {
			t.Fatalf("Solve of %v and %v: %v, %d", rows, v, got, err)
		}
		ahead := 0
		for j, x := range got {
			n := rank(first(rows, j+1))
			if n == ahead && x != 0 {
				t.Fatalf("Solve of %v and %v: %v, with a choice at %d", rows, v, got, j)
			}
			ahead = n
		}
	}
}

func TestSolveOfTheGreatest(t *testing.T) {
	f := field.New()
	r := rand.New(rand.NewSource(10))
	for _, n := range []int{1, 2, 32, 64} {
		m, _ := Vandermonde(f, places(r, n), n)
		want := column(r, n, 256)
		v, _ := m.Times(f, want)
		if got, err := m.Solve(f, v); err != api.OK || !bytes.Equal(got, want) {
			t.Errorf("Solve of %d: %v, %d, not %v", n, got, err, want)
		}
		wide := of(t, noughts(n, 64))
		if got, err := wide.Solve(f, make([]byte, n)); err != api.OK || len(got) != 64 || !same([][]byte{got}, noughts(1, 64)) {
			t.Errorf("Solve of noughts: %v, %d", got, err)
		}
	}
}

// P4.3

func TestTheyHaveInverses(t *testing.T) {
	f := field.New()
	r := rand.New(rand.NewSource(11))
	for n := 1; n <= 64; n++ {
		at := places(r, 2*n)
		cauchy, err := Cauchy(f, at[:n], at[n:])
		if err != api.OK {
			t.Fatalf("Cauchy of %v: %d", at, err)
		}
		vandermonde, err := Vandermonde(f, at[:n], n)
		if err != api.OK {
			t.Fatalf("Vandermonde of %v: %d", at[:n], err)
		}
		for what, m := range map[string]*Matrix{"Cauchy's": cauchy, "Vandermonde's": vandermonde} {
			i, err := m.Inverse(f)
			if err != api.OK || !same(times(all(i), all(m)), ones(n)) || m.Rank(f) != n {
				t.Fatalf("Inverse of %s of %v: %v, %d", what, at, all(i), err)
			}
			p, err := i.Mul(f, m)
			check(t, "an inverse, times its own", p, err, ones(n))
		}
	}
}

func TestPlacesThatAreTheSame(t *testing.T) {
	f := field.New()
	for _, xs := range [][]byte{{1, 1}, {0, 5, 0}, make([]byte, 64)} {
		m, err := Vandermonde(f, xs, len(xs))
		if err != api.OK {
			t.Fatalf("Vandermonde of %v: %d", xs, err)
		}
		i, err := m.Inverse(f)
		refused(t, "Inverse of Vandermonde's of places that are the same", i, err, api.ErrZero)
	}
}

// calls: of each function the lists that it tells.
func calls(f *field.Field, rows [][]byte, v []byte, picked []int, m, o *Matrix) map[string]func() [][]byte {
	whole := func(m *Matrix, err api.Errno) func() [][]byte {
		return func() [][]byte {
			if err != api.OK {
				return nil
			}
			return m.rows
		}
	}
	return map[string]func() [][]byte{
		"New":         func() [][]byte { return whole(New(rows))() },
		"Identity":    func() [][]byte { return whole(Identity(3))() },
		"Vandermonde": func() [][]byte { return whole(Vandermonde(f, v, 2))() },
		"Cauchy":      func() [][]byte { return whole(Cauchy(f, v, []byte{100, 101}))() },
		"Row":         func() [][]byte { return [][]byte{m.Row(1)} },
		"Pick":        func() [][]byte { return whole(m.Pick(picked...))() },
		"Mul":         func() [][]byte { return whole(m.Mul(f, o))() },
		"Mul by 1":    func() [][]byte { one, _ := Identity(3); return whole(m.Mul(f, one))() },
		"Times":       func() [][]byte { out, _ := m.Times(f, v); return [][]byte{out} },
		"Inverse":     func() [][]byte { return whole(m.Inverse(f))() },
		"of ones":     func() [][]byte { one, _ := Identity(3); return whole(one.Inverse(f))() },
		"Solve":       func() [][]byte { out, _ := m.Solve(f, v); return [][]byte{out} },
		"Rank":        func() [][]byte { return [][]byte{{byte(m.Rank(f))}} },
	}
}

// spoilt: what is told is written over, its spare room too.
func spoilt(rows [][]byte) {
	for _, row := range rows {
		for i := range row[:cap(row)] {
			row[:cap(row)][i] ^= 255
		}
	}
}

// clones: of lists, each with what stands in its room.
func clones(rows [][]byte) [][]byte {
	out := [][]byte{}
	for _, row := range rows {
		out = append(out, slices.Clone(row[:cap(row)]))
	}
	return out
}

func TestMemory(t *testing.T) {
	f := field.New()
	// With spare room, that is filled too.
	room := []byte{1, 2, 3, 4, 5, 6, 8, 8, 9, 40, 41, 42}
	rows := [][]byte{room[:3], room[3:6], room[6:9], {50}, nil}
	v := append(make([]byte, 0, 9), 7, 8, 9, 60, 61)
	picked := []int{2, 0, 2, 70}
	handed := append(slices.Clone(rows), v)
	old, oldField := clones(handed), *f
	m, o := of(t, rows[:3]), of(t, [][]byte{{1, 2}, {3, 4}, {5, 6}})
	oldM, oldO := all(m), all(o)
	for what, call := range calls(f, rows[:3], v[:3], picked[:3], m, o) {
		one, two := call(), call()
		if len(one) == 0 || len(one[0]) == 0 || !same(one, two) {
			t.Errorf("%s tells %v, then %v", what, one, two)
		}
		was := clones(two)
		spoilt(one)
		if !same(clones(two), was) {
			t.Errorf("%s tells the same memory twice", what)
		}
		again := clones(two)
		spoilt(two[:1])
		if !same(clones(two[1:]), again[1:]) {
			t.Errorf("rows that %s tells share memory", what)
		}
		if !same(clones(handed), old) || !slices.Equal(picked, []int{2, 0, 2, 70}) || *f != oldField {
			t.Fatalf("%s changes what is handed in, or tells its memory", what)
		}
		if !same(all(m), oldM) || !same(all(o), oldO) {
			t.Fatalf("%s changes a matrix, or tells its memory", what)
		}
	}
}

// TestNothingIsKept: what is handed in may be written again, and no matrix is another one for it.
func TestNothingIsKept(t *testing.T) {
	f := field.New()
	rows := [][]byte{{1, 2, 3}, {4, 5, 6}, {8, 8, 9}}
	xs, ys := []byte{1, 2, 3}, []byte{4, 5, 6}
	one, _ := Identity(3)
	made := map[string]*Matrix{"New": of(t, rows)}
	made["Vandermonde"], _ = Vandermonde(f, xs, 3)
	made["Cauchy"], _ = Cauchy(f, xs, ys)
	made["Pick"], _ = made["New"].Pick(1, 1, 0)
	made["Mul"], _ = made["New"].Mul(f, one)
	old := map[string][][]byte{}
	for what, m := range made {
		old[what] = all(m)
	}
	spoilt(rows)
	spoilt([][]byte{xs, ys})
	rows[0] = nil
	spoilt([][]byte{made["New"].Row(0)})
	for what, m := range made {
		if !same(all(m), old[what]) {
			t.Errorf("%s keeps what was handed in", what)
		}
	}
}
