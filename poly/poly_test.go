package poly

import (
	"bytes"
	"math/rand"
	"slices"
	"testing"

	"largesse/api"
	"largesse/field"
)

// value: one product after the other, by none of the program's own ways but Slow.
func value(p []byte, x byte) byte {
	out, power := byte(0), byte(1)
	for _, c := range p {
		out ^= field.Slow(c, power)
		power = field.Slow(power, x)
	}
	return out
}

// cut: without noughts at the end.
func cut(p []byte) []byte {
	out := slices.Clone(p)
	for len(out) > 0 && out[len(out)-1] == 0 {
		out = out[:len(out)-1]
	}
	return out
}

// times: the product, trimmed, however long it is.
func times(p, q []byte) []byte {
	out := make([]byte, len(p)+len(q))
	for i, a := range p {
		for j, b := range q {
			out[i+j] ^= field.Slow(a, b)
		}
	}
	return cut(out)
}

// plus: the sum, trimmed.
func plus(p, q []byte) []byte {
	out := make([]byte, max(len(p), len(q)))
	for i := range out {
		if i < len(p) {
			out[i] ^= p[i]
		}
		if i < len(q) {
			out[i] ^= q[i]
		}
	}
	return cut(out)
}

// some: n numbers, the same ones each time the source is.
func some(r *rand.Rand, n int) []byte {
	out := make([]byte, n)
	for i := range out {
		out[i] = byte(r.Intn(256))
		if r.Intn(8) == 0 {
			out[i] = 0
		}
	}
	return out
}

// places: n of them, no two the same.
func places(r *rand.Rand, n int) []byte {
	out := make([]byte, n)
	for i, x := range r.Perm(256)[:n] {
		out[i] = byte(x)
	}
	return out
}

// ending: n numbers, the last one 1.
func ending(n int) []byte {
	out := make([]byte, n)
	for i := range out {
		out[i] = byte(i * 7)
	}
	out[n-1] = 1
	return out
}

// long: numbers, and noughts behind them.
func long(p []byte, noughts int) []byte {
	return append(slices.Clone(p), make([]byte, noughts)...)
}

// P3.1

func TestTrimAndDegree(t *testing.T) {
	for _, c := range []struct {
		p      []byte
		want   []byte
		degree int
	}{
		{nil, nil, -1},
		{[]byte{}, nil, -1},
		{[]byte{0}, nil, -1},
		{[]byte{0, 0, 0}, nil, -1},
		{[]byte{5}, []byte{5}, 0},
		{[]byte{5, 0}, []byte{5}, 0},
		{[]byte{0, 0, 7}, []byte{0, 0, 7}, 2},
		{[]byte{0, 3, 0, 0}, []byte{0, 3}, 1},
		{[]byte{1, 2, 3}, []byte{1, 2, 3}, 2},
		{[]byte{1, 0, 3, 0}, []byte{1, 0, 3}, 2},
		{ending(256), ending(256), 255},
		{long(ending(256), 44), ending(256), 255},
		{make([]byte, 256), nil, -1},
		{ending(400), ending(400), 399},
	} {
		if got := Trim(c.p); !bytes.Equal(got, c.want) {
			t.Errorf("Trim of %v: %v", c.p, got)
		}
		if got := Degree(c.p); got != c.degree {
			t.Errorf("Degree of %v: %d, not %d", c.p, got, c.degree)
		}
	}
}

func TestEval(t *testing.T) {
	f := field.New()
	for _, c := range []struct {
		p    []byte
		x    byte
		want byte
	}{
		{nil, 7, 0}, {[]byte{9}, 7, 9}, {[]byte{9}, 0, 9}, {[]byte{9, 77}, 0, 9}, {[]byte{9, 77, 3}, 1, 9 ^ 77 ^ 3},
		{[]byte{0, 87}, 131, 193}, {[]byte{5, 3}, 1, 6}, {[]byte{5, 3}, 2, 3}, {[]byte{0, 0, 1}, 2, 4}, {[]byte{1, 0, 0}, 2, 1},
	} {
		if got := Eval(f, c.p, c.x); got != c.want {
			t.Errorf("Eval of %v at %d: %d, not %d", c.p, c.x, got, c.want)
		}
	}
	r := rand.New(rand.NewSource(1))
	for _, n := range []int{0, 1, 2, 3, 10, 255, 256, 300} {
		p := some(r, n)
		for x := range 256 {
			if got, want := Eval(f, p, byte(x)), value(p, byte(x)); got != want {
				t.Fatalf("Eval of %v at %d: %d, not %d", p, x, got, want)
			}
		}
	}
}

func TestAdd(t *testing.T) {
	for _, c := range []struct{ p, q, want []byte }{
		{nil, nil, nil},
		{[]byte{}, []byte{0}, nil},
		{[]byte{1, 2}, nil, []byte{1, 2}},
		{nil, []byte{1, 2}, []byte{1, 2}},
		{nil, []byte{1, 0}, []byte{1}},
		{[]byte{1, 0}, nil, []byte{1}},
		{[]byte{1, 2, 3}, []byte{1, 2, 3}, nil},
		{[]byte{1, 2, 3}, []byte{5, 2, 3}, []byte{4}},
		{[]byte{1, 2, 3}, []byte{5}, []byte{4, 2, 3}},
		{[]byte{5}, []byte{1, 2, 3}, []byte{4, 2, 3}},
		{[]byte{0, 0, 3}, []byte{0, 7, 3, 0}, []byte{0, 7}},
	} {
		if got := Add(c.p, c.q); !bytes.Equal(got, c.want) {
			t.Errorf("Add of %v and %v: %v, not %v", c.p, c.q, got, c.want)
		}
	}
	r := rand.New(rand.NewSource(2))
	for range 300 {
		p, q := some(r, r.Intn(257)), some(r, r.Intn(257))
		if got := Add(p, q); !bytes.Equal(got, plus(p, q)) {
			t.Fatalf("Add of %v and %v: %v", p, q, got)
		}
	}
}

func TestMul(t *testing.T) {
	f := field.New()
	for _, c := range []struct{ p, q, want []byte }{
		{nil, nil, nil},
		{[]byte{1, 2}, nil, nil},
		{nil, []byte{1, 2}, nil},
		{[]byte{0, 0}, []byte{1, 2}, nil},
		{[]byte{1, 2}, []byte{0}, nil},
		{[]byte{87}, []byte{131}, []byte{193}},
		{[]byte{1, 1}, []byte{2, 1}, []byte{2, 3, 1}},
		{[]byte{1, 1, 0, 0}, []byte{2, 1, 0}, []byte{2, 3, 1}},
		{[]byte{0, 0, 1}, []byte{0, 5}, []byte{0, 0, 0, 5}},
	} {
		if got, err := Mul(f, c.p, c.q); err != api.OK || !bytes.Equal(got, c.want) {
			t.Errorf("Mul of %v and %v: %v, %d, not %v", c.p, c.q, got, err, c.want)
		}
	}
	r := rand.New(rand.NewSource(3))
	for range 300 {
		p, q := some(r, r.Intn(128)), some(r, r.Intn(128))
		if got, err := Mul(f, p, q); err != api.OK || !bytes.Equal(got, times(p, q)) {
			t.Fatalf("Mul of %v and %v: %v, %d", p, q, got, err)
		}
	}
}

func TestMulOfTheLongest(t *testing.T) {
	f := field.New()
	for _, c := range []struct {
		p, q []byte
		err  api.Errno
	}{
		{ending(256), ending(1), api.OK},
		{ending(1), ending(256), api.OK},
		{ending(129), ending(128), api.OK},
		{ending(129), ending(129), api.ErrLong},
		{ending(256), ending(2), api.ErrLong},
		{ending(2), ending(256), api.ErrLong},
		{ending(256), ending(256), api.ErrLong},
		{ending(257), ending(1), api.ErrLong},
		// Noughts at the end aren't there.
		{long(ending(129), 100), long(ending(128), 50), api.OK},
		{make([]byte, 256), ending(256), api.OK},
		{ending(300), nil, api.OK},
	} {
		got, err := Mul(f, c.p, c.q)
		want := times(c.p, c.q)
		if c.err != api.OK {
			want = nil
		}
		if err != c.err || !bytes.Equal(got, want) {
			t.Errorf("Mul of %d and %d numbers: %v, %d, not %d", len(c.p), len(c.q), got, err, c.err)
		}
	}
}

func TestDivMod(t *testing.T) {
	f := field.New()
	for _, c := range []struct{ p, q, quot, rest []byte }{
		{nil, []byte{1}, nil, nil},
		{[]byte{0, 0}, []byte{1, 1}, nil, nil},
		{[]byte{193}, []byte{131}, []byte{87}, nil},
		{[]byte{2, 3, 1}, []byte{2, 1}, []byte{1, 1}, nil},
		{[]byte{2, 3, 1, 0}, []byte{2, 1, 0, 0}, []byte{1, 1}, nil},
		{[]byte{7, 3, 1}, []byte{2, 1}, []byte{1, 1}, []byte{5}},
		{[]byte{7, 3}, []byte{2, 1, 9}, nil, []byte{7, 3}},
		{[]byte{7, 3, 0, 0}, []byte{2, 1, 9}, nil, []byte{7, 3}},
		{[]byte{0, 0, 0, 5}, []byte{0, 5}, []byte{0, 0, 1}, nil},
	} {
		quot, rest, err := DivMod(f, c.p, c.q)
		if err != api.OK || !bytes.Equal(quot, c.quot) || !bytes.Equal(rest, c.rest) {
			t.Errorf("DivMod of %v by %v: %v, %v, %d", c.p, c.q, quot, rest, err)
		}
	}
	r := rand.New(rand.NewSource(4))
	for range 500 {
		p, q := some(r, r.Intn(257)), some(r, r.Intn(60))
		if Degree(q) < 0 {
			continue
		}
		quot, rest, err := DivMod(f, p, q)
		if err != api.OK || !bytes.Equal(plus(times(quot, q), rest), cut(p)) {
			t.Fatalf("DivMod of %v by %v: %v, %v, %d", p, q, quot, rest, err)
		}
		if len(rest) >= len(cut(q)) || len(rest) != len(cut(rest)) || len(quot) != len(cut(quot)) {
			t.Fatalf("DivMod of %v by %v is too long: %v, %v", p, q, quot, rest)
		}
	}
}

func TestDivModByZero(t *testing.T) {
	f := field.New()
	for _, q := range [][]byte{nil, {}, {0}, {0, 0, 0}} {
		for _, p := range [][]byte{nil, {0}, {1, 2}} {
			if quot, rest, err := DivMod(f, p, q); err != api.ErrZero || len(quot)+len(rest) != 0 {
				t.Errorf("DivMod of %v by %v: %v, %v, %d", p, q, quot, rest, err)
			}
		}
	}
}

func TestVanish(t *testing.T) {
	f := field.New()
	for _, c := range []struct{ xs, want []byte }{
		{nil, []byte{1}},
		{[]byte{}, []byte{1}},
		{[]byte{0}, []byte{0, 1}},
		{[]byte{7}, []byte{7, 1}},
		{[]byte{1, 2}, []byte{2, 3, 1}},
		{[]byte{2, 1}, []byte{2, 3, 1}},
		{[]byte{5, 5}, []byte{17, 0, 1}},
		{[]byte{0, 0, 0}, []byte{0, 0, 0, 1}},
	} {
		if got, err := Vanish(f, c.xs); err != api.OK || !bytes.Equal(got, c.want) {
			t.Errorf("Vanish of %v: %v, %d, not %v", c.xs, got, err, c.want)
		}
	}
	r := rand.New(rand.NewSource(5))
	for range 50 {
		xs := some(r, r.Intn(256))
		want := []byte{1}
		for _, x := range xs {
			want = times(want, []byte{x, 1})
		}
		if got, err := Vanish(f, xs); err != api.OK || !bytes.Equal(got, want) {
			t.Fatalf("Vanish of %v: %v, %d", xs, got, err)
		}
	}
}

func TestVanishOfTheMost(t *testing.T) {
	f := field.New()
	r := rand.New(rand.NewSource(6))
	if got, err := Vanish(f, places(r, 255)); err != api.OK || len(got) != 256 || got[255] != 1 {
		t.Errorf("Vanish of 255: %v, %d", got, err)
	}
	for _, xs := range [][]byte{places(r, 256), make([]byte, 256), make([]byte, 300)} {
		if got, err := Vanish(f, xs); err != api.ErrLong || len(got) != 0 {
			t.Errorf("Vanish of %d: %v, %d", len(xs), got, err)
		}
	}
}

// P3.2

func TestThrough(t *testing.T) {
	f := field.New()
	for _, c := range []struct{ xs, ys, want []byte }{
		{[]byte{0}, []byte{5}, []byte{5}},
		{[]byte{77}, []byte{5}, []byte{5}},
		{[]byte{77}, []byte{0}, nil},
		{[]byte{1, 2}, []byte{6, 3}, []byte{5, 3}},
		{[]byte{2, 1}, []byte{3, 6}, []byte{5, 3}},
		{[]byte{1, 2, 3}, []byte{9, 9, 9}, []byte{9}},
		{[]byte{1, 2, 3}, []byte{0, 0, 0}, nil},
		{[]byte{0, 1, 2}, []byte{0, 1, 4}, []byte{0, 0, 1}},
	} {
		if got, err := Through(f, c.xs, c.ys); err != api.OK || !bytes.Equal(got, c.want) {
			t.Errorf("Through %v, %v: %v, %d, not %v", c.xs, c.ys, got, err, c.want)
		}
	}
	r := rand.New(rand.NewSource(7))
	for _, n := range []int{1, 2, 3, 4, 5, 10, 50, 100, 254, 255} {
		for range 5 {
			xs, ys := places(r, n), some(r, n)
			got, err := Through(f, xs, ys)
			if err != api.OK || len(got) > n || len(got) != len(cut(got)) {
				t.Fatalf("Through %v, %v: %v, %d", xs, ys, got, err)
			}
			for i, x := range xs {
				if value(got, x) != ys[i] {
					t.Fatalf("Through %v, %v: %v is %d at %d", xs, ys, got, value(got, x), x)
				}
			}
		}
	}
}

// TestThroughItsOwnValues: of the values of a polynomial of a low degree comes that one.
func TestThroughItsOwnValues(t *testing.T) {
	f := field.New()
	r := rand.New(rand.NewSource(8))
	for range 100 {
		n := 1 + r.Intn(60)
		p, xs := some(r, r.Intn(n+1)), places(r, n)
		ys := make([]byte, n)
		for i, x := range xs {
			ys[i] = value(p, x)
		}
		if got, err := Through(f, xs, ys); err != api.OK || !bytes.Equal(got, cut(p)) {
			t.Fatalf("Through values of %v: %v, %d", p, got, err)
		}
	}
}

func TestWeights(t *testing.T) {
	f := field.New()
	for _, c := range []struct {
		xs   []byte
		x    byte
		want []byte
	}{
		{[]byte{9}, 0, []byte{1}},
		{[]byte{9}, 9, []byte{1}},
		{[]byte{1, 2}, 1, []byte{1, 0}},
		{[]byte{1, 2}, 2, []byte{0, 1}},
		{[]byte{0, 1}, 7, []byte{6, 7}},
		{[]byte{4, 7, 9}, 7, []byte{0, 1, 0}},
	} {
		if got, err := Weights(f, c.xs, c.x); err != api.OK || !bytes.Equal(got, c.want) {
			t.Errorf("Weights of %v at %d: %v, %d, not %v", c.xs, c.x, got, err, c.want)
		}
	}
	r := rand.New(rand.NewSource(9))
	for _, n := range []int{1, 2, 3, 4, 5, 10, 50, 100, 254, 255} {
		xs := places(r, n)
		for range 5 {
			x, p := byte(r.Intn(256)), some(r, n)
			got, err := Weights(f, xs, x)
			if err != api.OK || len(got) != n {
				t.Fatalf("Weights of %v at %d: %v, %d", xs, x, got, err)
			}
			sum := byte(0)
			for i, w := range got {
				sum ^= field.Slow(w, value(p, xs[i]))
			}
			if sum != value(p, x) {
				t.Fatalf("Weights of %v at %d tell %d of %v", xs, x, sum, p)
			}
		}
	}
}

func TestWrongPlaces(t *testing.T) {
	f := field.New()
	r := rand.New(rand.NewSource(10))
	twice := places(r, 255)
	twice[254] = twice[0]
	for _, c := range []struct {
		what string
		f    *field.Field
		xs   []byte
		err  api.Errno
	}{
		{"none", f, nil, api.ErrFew},
		{"an empty list", f, []byte{}, api.ErrFew},
		{"two the same", f, []byte{1, 1}, api.ErrSame},
		{"two noughts", f, []byte{0, 3, 0}, api.ErrSame},
		{"two ends the same", f, twice, api.ErrSame},
		{"all numbers", f, places(r, 256), api.ErrLong},
		{"too many, the same", f, make([]byte, 256), api.ErrLong},
		{"no field", nil, []byte{1, 2}, api.ErrArg},
		{"no field and none", nil, nil, api.ErrArg},
		{"no field and too many", nil, make([]byte, 300), api.ErrArg},
		{"no field and two the same", nil, []byte{1, 1}, api.ErrArg},
	} {
		if got, err := Through(c.f, c.xs, make([]byte, len(c.xs))); err != c.err || len(got) != 0 {
			t.Errorf("Through of %s: %v, %d, not %d", c.what, got, err, c.err)
		}
		if got, err := Weights(c.f, c.xs, 5); err != c.err || len(got) != 0 {
			t.Errorf("Weights of %s: %v, %d, not %d", c.what, got, err, c.err)
		}
	}
}

func TestThroughOfNotAsManyValues(t *testing.T) {
	f := field.New()
	for _, c := range []struct{ xs, ys []byte }{
		{[]byte{1}, nil}, {nil, []byte{1}}, {[]byte{1, 2}, []byte{1}}, {[]byte{1}, []byte{1, 2}},
		{[]byte{1, 1}, []byte{1}}, {make([]byte, 256), make([]byte, 255)}, {make([]byte, 255), make([]byte, 256)},
	} {
		if got, err := Through(f, c.xs, c.ys); err != api.ErrArg || len(got) != 0 {
			t.Errorf("Through of %d places and %d values: %v, %d", len(c.xs), len(c.ys), got, err)
		}
	}
}

// P3.3

func TestOfANilField(t *testing.T) {
	for _, p := range [][]byte{nil, {0}, {1, 2}, ending(256), make([]byte, 300)} {
		for _, q := range [][]byte{nil, {0}, {3}, ending(256)} {
			if got, err := Mul(nil, p, q); err != api.ErrArg || len(got) != 0 {
				t.Errorf("Mul of %v and %v: %v, %d", p, q, got, err)
			}
			if quot, rest, err := DivMod(nil, p, q); err != api.ErrArg || len(quot)+len(rest) != 0 {
				t.Errorf("DivMod of %v by %v: %v, %v, %d", p, q, quot, rest, err)
			}
		}
		if got, err := Vanish(nil, p); err != api.ErrArg || len(got) != 0 {
			t.Errorf("Vanish of %v: %v, %d", p, got, err)
		}
		for _, x := range []byte{0, 1, 77} {
			if got := Eval(nil, p, x); got != 0 {
				t.Errorf("Eval of %v at %d: %d", p, x, got)
			}
		}
	}
}

// calls: of each function one list that it tells.
func calls(f *field.Field, p, q []byte) map[string]func() []byte {
	return map[string]func() []byte{
		"Trim":     func() []byte { return Trim(p) },
		"Add":      func() []byte { return Add(p, q) },
		"Add none": func() []byte { return Add(p, nil) },
		"Mul":      func() []byte { out, _ := Mul(f, p, q); return out },
		"Mul by 1": func() []byte { out, _ := Mul(f, p, []byte{1}); return out },
		"quotient": func() []byte { out, _, _ := DivMod(f, p, q); return out },
		"rest":     func() []byte { _, out, _ := DivMod(f, p, q); return out },
		"by more":  func() []byte { _, out, _ := DivMod(f, q, p); return out },
		"by 1":     func() []byte { out, _, _ := DivMod(f, p, []byte{1}); return out },
		"Vanish":   func() []byte { out, _ := Vanish(f, p); return out },
		"Through":  func() []byte { out, _ := Through(f, p, p); return out },
		"Weights":  func() []byte { out, _ := Weights(f, p, 99); return out },
	}
}

func TestMemory(t *testing.T) {
	f := field.New()
	// With spare room, that is filled too.
	wholeP, wholeQ := []byte{4, 9, 1, 7, 12, 0, 33, 34, 35, 36}, []byte{8, 5, 3, 41, 42, 43, 44, 45, 46}
	p, q := wholeP[:6], wholeQ[:3]
	oldP, oldQ, oldField := slices.Clone(wholeP), slices.Clone(wholeQ), *f
	for what, call := range calls(f, p, q) {
		first, second := call(), call()
		if len(first) == 0 || !bytes.Equal(first, second) {
			t.Errorf("%s tells %v, then %v", what, first, second)
		}
		old := slices.Clone(second)
		for i := range first[:cap(first)] {
			first[:cap(first)][i] ^= 255
		}
		if !bytes.Equal(second, old) {
			t.Errorf("%s tells the same memory twice", what)
		}
		if !bytes.Equal(wholeP, oldP) || !bytes.Equal(wholeQ, oldQ) || *f != oldField {
			t.Fatalf("%s changes what is handed in, or tells its memory", what)
		}
	}
	if quot, rest, _ := DivMod(f, p, q); len(quot) > 0 && len(rest) > 0 {
		old := slices.Clone(rest)
		clear(quot[:cap(quot)])
		if !bytes.Equal(rest, old) {
			t.Error("quotient and rest share memory")
		}
	}
}
