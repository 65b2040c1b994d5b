package word

import (
	"bytes"
	"math"
	"slices"
	"testing"
)

// Types of one's own are words too.
type (
	tiny  uint8
	short uint16
	mid   uint32
	long  uint64
)

// samples: words whose bytes are all unlike, and those at the ends.
func samples[W Word]() []W {
	top := ^W(0)
	wide := uint64(0x8123456789abcdef)
	return []W{0, 1, 2, 129, top, top - 1, top >> 1, top>>1 + 1, W(wide), W(wide >> 7), W(wide >> 32)}
}

// counts: of bits to turn by, round each edge and at the ends.
func counts() []int {
	l := []int{math.MinInt, math.MinInt + 1, math.MaxInt - 1, math.MaxInt, math.MinInt32, math.MaxInt32}
	for n := -200; n <= 200; n++ {
		l = append(l, n)
	}
	return l
}

// filled: bytes that are all unlike, with room behind them that is filled too.
func filled(n int) []byte {
	all := make([]byte, n+32)
	for i := range all {
		all[i] = byte(i + 1)
	}
	return all[:n]
}

// unchanged: a check that neither b nor the room behind it was written.
func unchanged(t *testing.T, b []byte) func() {
	t.Helper()
	old := slices.Clone(b[:cap(b)])
	return func() {
		t.Helper()
		if !bytes.Equal(b[:cap(b)], old) {
			t.Errorf("what was handed in is %v, was %v", b[:cap(b)], old)
		}
	}
}

// P1.1

func TestBits(t *testing.T) {
	for _, c := range []struct{ got, want int }{
		{Bits[uint8](), 8}, {Bits[uint16](), 16}, {Bits[uint32](), 32}, {Bits[uint64](), 64},
		{Bits[tiny](), 8}, {Bits[short](), 16}, {Bits[mid](), 32}, {Bits[long](), 64},
	} {
		if c.got != c.want {
			t.Errorf("Bits is %d, not %d", c.got, c.want)
		}
	}
}

func TestPut(t *testing.T) {
	for _, c := range []struct {
		what      string
		got, want []byte
	}{
		{"uint8", Put(nil, uint8(0xfe)), []byte{0xfe}},
		{"uint16", Put(nil, uint16(258)), []byte{1, 2}},
		{"uint32", Put(nil, uint32(0x01020304)), []byte{1, 2, 3, 4}},
		{"uint64", Put(nil, uint64(0xf102030405060708)), []byte{0xf1, 2, 3, 4, 5, 6, 7, 8}},
		{"nought", Put([]byte{}, uint64(0)), make([]byte, 8)},
		{"behind", Put([]byte{9, 8}, uint32(1)), []byte{9, 8, 0, 0, 0, 1}},
		{"greatest", Put([]byte{7}, uint32(math.MaxUint32)), []byte{7, 255, 255, 255, 255}},
		{"own type", Put([]byte{7}, short(513)), []byte{7, 2, 1}},
	} {
		if !bytes.Equal(c.got, c.want) {
			t.Errorf("Put, %s: %v, not %v", c.what, c.got, c.want)
		}
	}
}

func checkGet[W Word](t *testing.T, b []byte, want W, there bool) {
	t.Helper()
	if x, ok := Get[W](b); x != want || ok != there {
		t.Errorf("Get of %v: %d, %v, not %d, %v", b, x, ok, want, there)
	}
}

func TestGet(t *testing.T) {
	b := []byte{0xf1, 2, 3, 4, 5, 6, 7, 8, 9}
	checkGet(t, b, uint8(0xf1), true)
	checkGet(t, b, uint16(0xf102), true)
	checkGet(t, b, uint32(0xf1020304), true)
	checkGet(t, b, uint64(0xf102030405060708), true)
	checkGet(t, b[:8], long(0xf102030405060708), true)
	checkGet(t, b[1:], mid(0x02030405), true)
}

// checkFew: of fewer bytes than a word has there is none, though there is room behind them.
func checkFew[W Word](t *testing.T) {
	t.Helper()
	checkGet(t, nil, W(0), false)
	for n := range Bits[W]() / 8 {
		checkGet(t, filled(n), W(0), false)
	}
}

func TestGetOfTooFew(t *testing.T) {
	checkFew[uint8](t)
	checkFew[uint16](t)
	checkFew[uint32](t)
	checkFew[uint64](t)
	checkFew[tiny](t)
	checkFew[long](t)
}

// P1.2

// slowTurn: bit by bit, each to its own new place.
func slowTurn[W Word](x W, n int) W {
	all := Bits[W]()
	out := W(0)
	for i := range all {
		if x>>i&1 == 1 {
			out |= 1 << (((i+n%all)%all + all) % all)
		}
	}
	return out
}

func checkTurn[W Word](t *testing.T) {
	t.Helper()
	for _, x := range samples[W]() {
		for _, n := range counts() {
			if got, want := Turn(x, n), slowTurn(x, n); got != want {
				t.Fatalf("Turn of %d by %d, of %d bits: %d, not %d", x, n, Bits[W](), got, want)
			}
		}
	}
}

func TestTurn(t *testing.T) {
	checkTurn[uint8](t)
	checkTurn[uint16](t)
	checkTurn[uint32](t)
	checkTurn[uint64](t)
	checkTurn[short](t)
}

func TestTurnByKnownNumbers(t *testing.T) {
	for _, c := range []struct {
		x    uint8
		n    int
		want uint8
	}{
		{129, 1, 3}, {129, -1, 192}, {129, 0, 129}, {129, 8, 129}, {129, -8, 129}, {129, 9, 3}, {129, -9, 192},
		{0x1f, 4, 0xf1}, {1, math.MaxInt, 128}, {1, math.MinInt, 1}, {1, math.MinInt + 1, 2}, {0, 3, 0}, {255, 5, 255},
	} {
		if got := Turn(c.x, c.n); got != c.want {
			t.Errorf("Turn of %d by %d: %d, not %d", c.x, c.n, got, c.want)
		}
	}
	if got := Turn(uint32(0x80000001), 4); got != 0x18 {
		t.Errorf("Turn of 32 bits by 4: %#x", got)
	}
	if got := Turn(uint64(0x0123456789abcdef), -8); got != 0xef0123456789abcd {
		t.Errorf("Turn of 64 bits by -8: %#x", got)
	}
}

func checkCount[W Word](t *testing.T) {
	t.Helper()
	for _, x := range samples[W]() {
		want := 0
		for i := range Bits[W]() {
			want += int(x >> i & 1)
		}
		if got := Count(x); got != want {
			t.Errorf("Count of %d: %d, not %d", x, got, want)
		}
	}
	if got := Count(^W(0)); got != Bits[W]() {
		t.Errorf("Count of ones alone: %d", got)
	}
}

func TestCount(t *testing.T) {
	checkCount[uint8](t)
	checkCount[uint16](t)
	checkCount[uint32](t)
	checkCount[uint64](t)
	checkCount[mid](t)
	if Count(uint8(129)) != 2 || Count(uint64(1)<<63) != 1 || Count(uint16(0)) != 0 {
		t.Error("Count")
	}
}

func TestXor(t *testing.T) {
	for _, c := range []struct{ a, b, want []byte }{
		{nil, nil, nil},
		{nil, []byte{1}, nil},
		{[]byte{1}, []byte{}, nil},
		{[]byte{12}, []byte{10}, []byte{6}},
		{[]byte{1, 2, 3}, []byte{255, 2}, []byte{254, 0}},
		{[]byte{255, 2}, []byte{1, 2, 3}, []byte{254, 0}},
		{[]byte{0, 128, 255}, []byte{0, 1, 255}, []byte{0, 129, 0}},
	} {
		if got := Xor(c.a, c.b); !bytes.Equal(got, c.want) {
			t.Errorf("Xor of %v and %v: %v, not %v", c.a, c.b, got, c.want)
		}
	}
}

func TestZero(t *testing.T) {
	if !Zero(nil) || !Zero([]byte{}) {
		t.Error("Zero of nothing is false")
	}
	for n := 1; n <= 20; n++ {
		b := make([]byte, n)
		if !Zero(b) {
			t.Errorf("Zero of %d noughts is false", n)
		}
		for i := range b {
			for _, x := range []byte{1, 128, 255} {
				b[i] = x
				if Zero(b) {
					t.Errorf("Zero is true with %d at %d of %d", x, i, n)
				}
			}
			b[i] = 0
		}
	}
	if !Zero(append(make([]byte, 3), 9)[:3]) {
		t.Error("Zero looks behind the bytes")
	}
}

// P1.3

// bitsOf: bits that are told by signs.
func bitsOf(signs string) []bool {
	out := []bool{}
	for _, s := range signs {
		out = append(out, s == '1')
	}
	return out
}

func TestPack(t *testing.T) {
	for _, c := range []struct {
		bits string
		want []byte
	}{
		{"", nil},
		{"0", []byte{0}},
		{"1", []byte{128}},
		{"101", []byte{160}},
		{"0000001", []byte{2}},
		{"00000001", []byte{1}},
		{"11111111", []byte{255}},
		{"000000001", []byte{0, 128}},
		{"0111111111111110", []byte{127, 254}},
		{"11110000000011111", []byte{240, 15, 128}},
	} {
		if got := Pack(bitsOf(c.bits)); !bytes.Equal(got, c.want) {
			t.Errorf("Pack of %q: %v, not %v", c.bits, got, c.want)
		}
	}
	if got := Pack(nil); len(got) != 0 {
		t.Errorf("Pack of nil: %v", got)
	}
}

func TestUnpack(t *testing.T) {
	for _, c := range []struct {
		b    []byte
		n    int
		want string
	}{
		{nil, 0, ""},
		{[]byte{}, 0, ""},
		{[]byte{0}, 1, "0"},
		{[]byte{128}, 1, "1"},
		{[]byte{160}, 3, "101"},
		{[]byte{160}, 4, "1010"},
		{[]byte{160}, 8, "10100000"},
		{[]byte{255}, 8, "11111111"},
		{[]byte{0, 128}, 9, "000000001"},
		{[]byte{240, 15, 128}, 17, "11110000000011111"},
	} {
		if got, ok := Unpack(c.b, c.n); !ok || !slices.Equal(got, bitsOf(c.want)) {
			t.Errorf("Unpack of %d bits of %v: %v, %v", c.n, c.b, got, ok)
		}
	}
}

func TestUnpackOfWrongOnes(t *testing.T) {
	for _, c := range []struct {
		b    []byte
		n    int
		what string
	}{
		{nil, 1, "no bytes"},
		{nil, -1, "below 0"},
		{nil, -8, "below 0"},
		{[]byte{0}, -8, "below 0"},
		{[]byte{0}, -1, "below 0"},
		{[]byte{0}, math.MinInt, "the least number"},
		{[]byte{0}, math.MaxInt, "the greatest number"},
		{nil, math.MaxInt, "the greatest number"},
		{[]byte{0}, 9, "more bits than there are"},
		{[]byte{0, 0}, 17, "more bits than there are"},
		{[]byte{160}, 2, "a bit behind them"},
		{[]byte{1}, 7, "the last bit behind them"},
		{[]byte{128, 64}, 9, "a bit behind them"},
		{[]byte{255, 1}, 15, "the last bit behind them"},
		{[]byte{0}, 0, "a byte more"},
		{[]byte{1}, 0, "a byte more"},
		{[]byte{255, 0}, 8, "a byte more"},
		{[]byte{0, 0, 0}, 16, "a byte more"},
		{[]byte{128, 0}, 1, "a byte more"},
	} {
		if got, ok := Unpack(c.b, c.n); ok || len(got) != 0 {
			t.Errorf("Unpack of %d bits of %v, %s: %v, %v", c.n, c.b, c.what, got, ok)
		}
	}
}

// P1.4

func checkRound[W Word](t *testing.T) {
	t.Helper()
	for _, x := range samples[W]() {
		checkGet(t, Put(nil, x), x, true)
		checkGet(t, append(Put(nil, x), 1, 2), x, true)
		checkGet(t, Put([]byte{3, 4, 5}, x)[3:], x, true)
		for _, n := range counts() {
			// The least number is its own opposite, and turns by nothing.
			if back := Turn(Turn(x, n), -n); back != x {
				t.Fatalf("%d, turned by %d and back: %d", x, n, back)
			}
		}
	}
}

func TestThereAndBack(t *testing.T) {
	checkRound[uint8](t)
	checkRound[uint16](t)
	checkRound[uint32](t)
	checkRound[uint64](t)
	checkRound[tiny](t)
	checkRound[long](t)
}

func TestUnpackOfPack(t *testing.T) {
	for n := range 13 {
		for x := range 1 << n {
			list := make([]bool, n)
			for i := range list {
				list[i] = x>>i&1 == 1
			}
			if got, ok := Unpack(Pack(list), n); !ok || !slices.Equal(got, list) {
				t.Fatalf("Unpack of Pack of %v: %v, %v", list, got, ok)
			}
		}
	}
}

// TestPackOfUnpack: whatever Unpack takes is packed to the same bytes, so there is but one way to write bits.
func TestPackOfUnpack(t *testing.T) {
	for x := range 1 << 16 {
		b := Put(nil, uint16(x))
		taken := 0
		for n := -1; n <= 17; n++ {
			if list, ok := Unpack(b, n); ok {
				taken++
				if !bytes.Equal(Pack(list), b) {
					t.Fatalf("Pack of Unpack of %d bits of %v: %v", n, b, Pack(list))
				}
			}
		}
		if taken == 0 {
			t.Fatalf("Unpack takes %v at no length", b)
		}
	}
}

func TestNothingIsChanged(t *testing.T) {
	b := filled(5)
	c := filled(9)
	checks := []func(){unchanged(t, b), unchanged(t, c)}
	Put(b, uint8(200))
	Put(b, uint64(math.MaxUint64))
	Put(b[:0], uint32(math.MaxUint32))
	Get[uint32](b)
	Xor(b, c)
	Xor(c, b)
	Xor(c, c)
	Zero(b)
	Unpack(b, 40)
	Unpack(c, 3)
	list := bitsOf("1101")
	Pack(list[:3])
	for _, check := range checks {
		check()
	}
	if !slices.Equal(list, bitsOf("1101")) {
		t.Error("Pack changed its bits")
	}
}

// TestAnswersAreNew: an answer that is written over tells on nothing else, and the other way.
func TestAnswersAreNew(t *testing.T) {
	b := filled(5)
	check := unchanged(t, b)
	for _, answer := range [][]byte{Put(b, uint8(1)), Put(b, uint64(1)), Put(b[:0], uint16(1)), Xor(b, b), Xor(b, filled(3))} {
		for i := range answer[:cap(answer)] {
			answer[:cap(answer)][i] ^= 0xff
		}
		check()
	}
	put, xor := Put(b, uint8(9)), Xor(b, make([]byte, 5))
	b[0], b[4] = 77, 78
	if put[0] != 1 || put[4] != 5 || xor[0] != 1 || xor[4] != 5 {
		t.Error("an answer is what was handed in")
	}
	one, two := Put(b, uint16(1)), Put(b, uint16(2))
	if one[6] != 1 || two[6] != 2 {
		t.Error("two answers share their bytes")
	}
	bytesIn := []byte{160}
	first, _ := Unpack(bytesIn, 3)
	second, _ := Unpack(bytesIn, 3)
	first[0] = false
	if !second[0] || bytesIn[0] != 160 {
		t.Error("two answers share their bits")
	}
}
