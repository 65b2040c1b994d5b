package field

import (
	"bytes"
	"math"
	"slices"
	"testing"

	"largesse/api"
)

// product: of polynomials of bits, and then its rest, by long division.
func product(a, b byte) byte {
	wide := uint32(0)
	for i := range 8 {
		if b>>i&1 == 1 {
			wide ^= uint32(a) << i
		}
	}
	for i := 15; i >= 8; i-- {
		if wide>>i&1 == 1 {
			wide ^= 0x11b << (i - 8)
		}
	}
	return byte(wide)
}

// all: the numbers of the field, rising.
func all() []byte {
	out := make([]byte, 256)
	for i := range out {
		out[i] = byte(i)
	}
	return out
}

// filled: bytes that are all unlike, with room behind them that is filled too.
func filled(n int, first byte) []byte {
	b := make([]byte, n+32)
	for i := range b {
		b[i] = first + byte(i)
	}
	return b[:n]
}

// P2.1

func TestNew(t *testing.T) {
	f, g := New(), New()
	if f == nil || g == nil {
		t.Fatal("New is nil")
	}
	if f == g {
		t.Error("New tells the same field twice")
	}
	if *f != *g {
		t.Error("two fields are unlike")
	}
}

func TestAdd(t *testing.T) {
	for _, c := range []struct{ a, b, want byte }{
		{0, 0, 0}, {1, 1, 0}, {12, 10, 6}, {255, 1, 254}, {200, 100, 172}, {0, 255, 255}, {87, 131, 212},
	} {
		if got := Add(c.a, c.b); got != c.want {
			t.Errorf("Add of %d and %d: %d, not %d", c.a, c.b, got, c.want)
		}
	}
	for _, a := range all() {
		for _, b := range all() {
			if Add(Add(a, b), b) != a {
				t.Fatalf("%d, with %d added twice, is %d", a, b, Add(Add(a, b), b))
			}
		}
	}
}

func TestMulAndSlow(t *testing.T) {
	f := New()
	for _, a := range all() {
		for _, b := range all() {
			want := product(a, b)
			if got := f.Mul(a, b); got != want {
				t.Fatalf("Mul of %d and %d: %d, not %d", a, b, got, want)
			}
			if got := Slow(a, b); got != want {
				t.Fatalf("Slow of %d and %d: %d, not %d", a, b, got, want)
			}
		}
	}
}

func TestMulByKnownNumbers(t *testing.T) {
	f := New()
	// Those of FIPS 197 are among them.
	for _, c := range []struct{ a, b, want byte }{
		{87, 131, 193}, {0x57, 0x13, 0xfe}, {0x57, 0x02, 0xae}, {0x57, 0x10, 0x07}, {0x80, 2, 0x1b}, {83, 202, 1}, {255, 255, 0x13},
		{0, 0, 0}, {0, 77, 0}, {77, 0, 0}, {1, 77, 77}, {77, 1, 77},
	} {
		if got := f.Mul(c.a, c.b); got != c.want {
			t.Errorf("Mul of %d and %d: %d, not %d", c.a, c.b, got, c.want)
		}
		if got := Slow(c.a, c.b); got != c.want {
			t.Errorf("Slow of %d and %d: %d, not %d", c.a, c.b, got, c.want)
		}
	}
}

func TestInv(t *testing.T) {
	f := New()
	for _, a := range all()[1:] {
		x, err := f.Inv(a)
		if err != api.OK || product(a, x) != 1 {
			t.Errorf("Inv of %d: %d, %d", a, x, err)
		}
	}
	if x, err := f.Inv(83); x != 202 || err != api.OK {
		t.Errorf("Inv of 83: %d, %d", x, err)
	}
	if x, err := f.Inv(1); x != 1 || err != api.OK {
		t.Errorf("Inv of 1: %d, %d", x, err)
	}
}

func TestDiv(t *testing.T) {
	f := New()
	for _, a := range all() {
		for _, b := range all()[1:] {
			if x, err := f.Div(a, b); err != api.OK || product(x, b) != a {
				t.Fatalf("Div of %d by %d: %d, %d", a, b, x, err)
			}
		}
	}
}

func TestNothingIsDividedByZero(t *testing.T) {
	f := New()
	if x, err := f.Inv(0); x != 0 || err != api.ErrZero {
		t.Errorf("Inv of 0: %d, %d", x, err)
	}
	if x, err := f.Log(0); x != 0 || err != api.ErrZero {
		t.Errorf("Log of 0: %d, %d", x, err)
	}
	for _, a := range all() {
		if x, err := f.Div(a, 0); x != 0 || err != api.ErrZero {
			t.Errorf("Div of %d by 0: %d, %d", a, x, err)
		}
	}
}

// TestPow: against one product after the other, more than twice round, both ways.
func TestPow(t *testing.T) {
	f := New()
	for _, a := range all()[1:] {
		inverse, _ := f.Inv(a)
		up, down := byte(1), byte(1)
		for n := range 600 {
			if got := f.Pow(a, n); got != up {
				t.Fatalf("Pow of %d, %d times: %d, not %d", a, n, got, up)
			}
			if got := f.Pow(a, -n); got != down {
				t.Fatalf("Pow of %d, %d times: %d, not %d", a, -n, got, down)
			}
			up, down = product(up, a), product(down, inverse)
		}
	}
}

// slowPow: by halves, of a number of times that is at least 0.
func slowPow(a byte, n uint64) byte {
	out := byte(1)
	for ; n > 0; n >>= 1 {
		if n&1 == 1 {
			out = product(out, a)
		}
		a = product(a, a)
	}
	return out
}

func TestPowAtTheEnds(t *testing.T) {
	f := New()
	for _, a := range all()[1:] {
		inverse, _ := f.Inv(a)
		for _, n := range []int{math.MaxInt, math.MaxInt - 1, math.MaxInt32, 1 << 40, 255 * 255, 254, 256} {
			if got, want := f.Pow(a, n), slowPow(a, uint64(n)); got != want {
				t.Fatalf("Pow of %d, %d times: %d, not %d", a, n, got, want)
			}
			if got, want := f.Pow(a, -n), slowPow(inverse, uint64(n)); got != want {
				t.Fatalf("Pow of %d, %d times: %d, not %d", a, -n, got, want)
			}
		}
		if got, want := f.Pow(a, math.MinInt), slowPow(inverse, 1<<63); got != want {
			t.Fatalf("Pow of %d, the least number of times: %d, not %d", a, got, want)
		}
	}
	if got := f.Pow(3, 255); got != 1 {
		t.Errorf("Pow of 3, 255 times: %d", got)
	}
}

func TestPowOfZero(t *testing.T) {
	f := New()
	if got := f.Pow(0, 0); got != 1 {
		t.Errorf("Pow of 0, 0 times: %d", got)
	}
	for _, n := range []int{1, 2, 254, 255, 256, 510, -1, -2, -255, -510, math.MaxInt, math.MinInt} {
		if got := f.Pow(0, n); got != 0 {
			t.Errorf("Pow of 0, %d times: %d", n, got)
		}
	}
}

func TestLog(t *testing.T) {
	f := New()
	x := byte(1)
	for n := range 255 {
		if got, err := f.Log(x); got != n || err != api.OK {
			t.Errorf("Log of %d: %d, %d, not %d", x, got, err, n)
		}
		x = product(x, 3)
	}
	for _, c := range []struct {
		a    byte
		want int
	}{{1, 0}, {3, 1}, {5, 2}, {2, 25}, {0xf6, 254}} {
		if got, err := f.Log(c.a); got != c.want || err != api.OK {
			t.Errorf("Log of %d: %d, %d, not %d", c.a, got, err, c.want)
		}
	}
}

// P2.2

func TestScale(t *testing.T) {
	f := New()
	for _, c := range all() {
		got := f.Scale(c, all())
		if len(got) != 256 {
			t.Fatalf("Scale by %d: %d bytes", c, len(got))
		}
		for b, x := range got {
			if want := product(c, byte(b)); x != want {
				t.Fatalf("Scale of %d by %d: %d, not %d", b, c, x, want)
			}
		}
	}
	if got := f.Scale(2, []byte{1, 128, 0, 77}); !bytes.Equal(got, []byte{2, 27, 0, 154}) {
		t.Errorf("Scale by 2: %v", got)
	}
	if got := f.Scale(7, nil); len(got) != 0 {
		t.Errorf("Scale of nothing: %v", got)
	}
	if got := f.Scale(7, []byte{}); len(got) != 0 {
		t.Errorf("Scale of nothing: %v", got)
	}
}

func TestSum(t *testing.T) {
	f := New()
	for _, c := range []struct {
		a    []byte
		c    byte
		b    []byte
		want []byte
	}{
		{nil, 1, nil, nil},
		{nil, 1, []byte{1, 2}, nil},
		{[]byte{}, 1, []byte{1, 2}, nil},
		{[]byte{5, 6}, 1, nil, []byte{5, 6}},
		{[]byte{5, 6}, 0, []byte{7, 8}, []byte{5, 6}},
		{[]byte{5, 6}, 1, []byte{7, 8}, []byte{2, 14}},
		{[]byte{5, 6}, 2, []byte{128, 1}, []byte{30, 4}},
		{[]byte{5, 6, 7}, 1, []byte{5}, []byte{0, 6, 7}},
		{[]byte{5}, 1, []byte{4, 9, 9}, []byte{1}},
		{[]byte{0, 0}, 87, []byte{131, 0}, []byte{193, 0}},
	} {
		if got := f.Sum(c.a, c.c, c.b); !bytes.Equal(got, c.want) {
			t.Errorf("Sum of %v and %d times %v: %v, not %v", c.a, c.c, c.b, got, c.want)
		}
	}
}

func TestSumOfAnyLengths(t *testing.T) {
	f := New()
	for n := range 12 {
		for m := range 12 {
			for _, c := range []byte{0, 1, 2, 87, 255} {
				a, b := filled(n, 100), filled(m, 200)
				got := f.Sum(a, c, b)
				if len(got) != n {
					t.Fatalf("Sum of %d and %d bytes: %d", n, m, len(got))
				}
				for i, x := range got {
					want := a[i]
					if i < m {
						want ^= product(c, b[i])
					}
					if x != want {
						t.Fatalf("Sum of %v and %d times %v: %v", a, c, b, got)
					}
				}
			}
		}
	}
}

func TestOfANilField(t *testing.T) {
	var f *Field
	for _, a := range []byte{0, 1, 3, 87, 255} {
		for _, b := range []byte{0, 1, 131, 255} {
			if x := f.Mul(a, b); x != 0 {
				t.Errorf("Mul of %d and %d: %d", a, b, x)
			}
			if x, err := f.Div(a, b); x != 0 || err != api.ErrArg {
				t.Errorf("Div of %d by %d: %d, %d", a, b, x, err)
			}
		}
		if x, err := f.Inv(a); x != 0 || err != api.ErrArg {
			t.Errorf("Inv of %d: %d, %d", a, x, err)
		}
		if x, err := f.Log(a); x != 0 || err != api.ErrArg {
			t.Errorf("Log of %d: %d, %d", a, x, err)
		}
		for _, n := range []int{0, 1, -1, 255, math.MaxInt, math.MinInt} {
			if x := f.Pow(a, n); x != 0 {
				t.Errorf("Pow of %d, %d times: %d", a, n, x)
			}
		}
		for _, b := range [][]byte{nil, {}, {1, 2}} {
			if x := f.Scale(a, b); len(x) != 0 {
				t.Errorf("Scale of %v by %d: %v", b, a, x)
			}
			if x := f.Sum(b, a, []byte{3, 4}); len(x) != 0 {
				t.Errorf("Sum of %v and %d times others: %v", b, a, x)
			}
		}
	}
}

// P2.3

func TestProductsAndSumsHaveNoOrder(t *testing.T) {
	f := New()
	for _, a := range all() {
		for _, b := range all() {
			if Add(a, b) != Add(b, a) {
				t.Fatalf("Add of %d and %d has an order", a, b)
			}
			if f.Mul(a, b) != f.Mul(b, a) || Slow(a, b) != Slow(b, a) {
				t.Fatalf("the product of %d and %d has an order", a, b)
			}
		}
	}
}

func TestProductsAndSumsGoThroughOneAnother(t *testing.T) {
	f := New()
	for _, a := range all() {
		for _, b := range all() {
			ab := f.Mul(a, b)
			for c := a % 7; c < 249; c += 7 {
				if f.Mul(ab, c) != f.Mul(a, f.Mul(b, c)) {
					t.Fatalf("the product of %d, %d, %d hangs on where it begins", a, b, c)
				}
				if Add(Add(a, b), c) != Add(a, Add(b, c)) {
					t.Fatalf("the sum of %d, %d, %d hangs on where it begins", a, b, c)
				}
				if f.Mul(a, Add(b, c)) != Add(ab, f.Mul(a, c)) {
					t.Fatalf("%d, times the sum of %d and %d, isn't the sum of products", a, b, c)
				}
			}
		}
	}
}

func TestEachHasOneInverse(t *testing.T) {
	f := New()
	seen := [256]int{}
	for _, a := range all()[1:] {
		x, err := f.Inv(a)
		if err != api.OK {
			t.Fatalf("Inv of %d: %d", a, err)
		}
		back, _ := f.Inv(x)
		if f.Mul(a, x) != 1 || f.Mul(x, a) != 1 || back != a {
			t.Errorf("Inv of %d is %d, and of that %d", a, x, back)
		}
		seen[x]++
	}
	for x, n := range seen {
		if n != min(x, 1) {
			t.Errorf("%d is the inverse of %d numbers", x, n)
		}
	}
}

func TestNothingIsChanged(t *testing.T) {
	f := New()
	a, b := filled(5, 1), filled(9, 90)
	oldA, oldB := slices.Clone(a[:cap(a)]), slices.Clone(b[:cap(b)])
	f.Scale(87, a)
	f.Scale(0, b[:0])
	f.Sum(a, 3, b)
	f.Sum(b, 255, a)
	f.Sum(a[:0], 5, b)
	f.Sum(b[2:4], 5, b)
	if !bytes.Equal(a[:cap(a)], oldA) || !bytes.Equal(b[:cap(b)], oldB) {
		t.Errorf("what was handed in is %v and %v", a[:cap(a)], b[:cap(b)])
	}
}

func TestAnswersAreNewMemory(t *testing.T) {
	f := New()
	a, b := filled(5, 1), filled(5, 90)
	for _, c := range []byte{0, 1, 87} {
		for what, call := range map[string]func() []byte{
			"Scale":          func() []byte { return f.Scale(c, a) },
			"Sum":            func() []byte { return f.Sum(a, c, b) },
			"Sum of nothing": func() []byte { return f.Sum(a, c, nil) },
			"Sum of itself":  func() []byte { return f.Sum(a, c, a) },
		} {
			oldA, oldB := slices.Clone(a[:cap(a)]), slices.Clone(b[:cap(b)])
			first, second := call(), call()
			if !bytes.Equal(first, second) {
				t.Errorf("%s tells %v, then %v", what, first, second)
			}
			old := slices.Clone(second)
			room := first[:cap(first)]
			for i := range room {
				room[i] ^= 255
			}
			if !bytes.Equal(second, old) {
				t.Errorf("%s tells the same memory twice", what)
			}
			if !bytes.Equal(a[:cap(a)], oldA) || !bytes.Equal(b[:cap(b)], oldB) {
				t.Errorf("%s shares memory with what was handed in", what)
			}
		}
	}
}

// TestNothingIsKept: a list that was handed in may be written again.
func TestNothingIsKept(t *testing.T) {
	f := New()
	a, b := filled(6, 1), filled(6, 90)
	scaled, sum := f.Scale(87, a), f.Sum(a, 87, b)
	oldScaled, oldSum := slices.Clone(scaled), slices.Clone(sum)
	clear(a[:cap(a)])
	clear(b[:cap(b)])
	if !bytes.Equal(scaled, oldScaled) || !bytes.Equal(sum, oldSum) {
		t.Error("an answer hangs on what was handed in")
	}
	if *f != *New() {
		t.Error("the field has changed")
	}
}
