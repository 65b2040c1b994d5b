package tape

import (
	"bytes"
	"math"
	"math/rand"
	"slices"
	"strconv"
	"strings"
	"testing"

	"largesse/api"
)

// some: so many bytes.
func some(r *rand.Rand, n int) []byte {
	b := make([]byte, n)
	for i := range b {
		b[i] = byte(r.Intn(256))
	}
	return b
}

// rising: 0, 1, 2 ..
func rising(n int) []byte {
	b := make([]byte, n)
	for i := range b {
		b[i] = byte(i)
	}
	return b
}

// roomy: the same bytes, with room behind them, that is filled too.
func roomy(b []byte) []byte {
	return slices.Concat(b, bytes.Repeat([]byte{77}, 100))[:len(b)]
}

// made: a tape, asked for rightly.
func made(t *testing.T, b []byte) *Tape {
	t.Helper()
	x, err := New(b)
	if x == nil || err != api.OK {
		t.Fatalf("New of %d bytes: %d", len(b), err)
	}
	return x
}

// taken: the next bytes, asked for rightly.
func taken(t *testing.T, x *Tape, note string, n int) []byte {
	t.Helper()
	b, err := x.Take(note, n)
	if err != api.OK || len(b) != n {
		t.Fatalf("Take of %d: %d bytes, %d", n, len(b), err)
	}
	return b
}

// refused: what can't be taken, by which error.
func refused(t *testing.T, x *Tape, n int, want api.Errno) {
	t.Helper()
	if b, err := x.Take("refused", n); b != nil || err != want {
		t.Errorf("Take of %d: %d bytes, %d, not %d", n, len(b), err, want)
	}
}

// check: how a tape stands.
func check(t *testing.T, x *Tape, at, left int, takes ...Take) {
	t.Helper()
	if x.At() != at || x.Left() != left {
		t.Fatalf("At %d, Left %d, not %d, %d", x.At(), x.Left(), at, left)
	}
	if got := slices.Collect(x.Takes()); !slices.Equal(got, takes) {
		t.Fatalf("Takes: %v, not %v", got, takes)
	}
}

// P12.1

func TestExample(t *testing.T) {
	x := made(t, []byte{1, 2, 3})
	check(t, x, 0, 3)
	if b := taken(t, x, "a", 2); !bytes.Equal(b, []byte{1, 2}) {
		t.Errorf("Take of 2: %v", b)
	}
	refused(t, x, 2, api.ErrSpent)
	check(t, x, 2, 1, Take{"a", 0, 2})
	if b := taken(t, x, "c", 1); !bytes.Equal(b, []byte{3}) {
		t.Errorf("Take of 1: %v", b)
	}
	check(t, x, 3, 0, Take{"a", 0, 2}, Take{"c", 2, 1})
}

// TestAllAtOnce: of any number, and then there is none.
func TestAllAtOnce(t *testing.T) {
	r := rand.New(rand.NewSource(1))
	for n := range 600 {
		b := some(r, n)
		x := made(t, b)
		check(t, x, 0, n)
		refused(t, x, n+1, api.ErrSpent)
		if got := taken(t, x, "all", n); !bytes.Equal(got, b) {
			t.Fatalf("Take of all %d: others", n)
		}
		check(t, x, n, 0, Take{"all", 0, n})
		refused(t, x, 1, api.ErrSpent)
		check(t, x, n, 0, Take{"all", 0, n})
	}
}

// TestOneByOne: the first ones first.
func TestOneByOne(t *testing.T) {
	b := some(rand.New(rand.NewSource(2)), 600)
	x, want := made(t, b), []Take{}
	for i := range b {
		note := strconv.Itoa(i)
		if got := taken(t, x, note, 1); got[0] != b[i] {
			t.Fatalf("Take of one at %d: %d, not %d", i, got[0], b[i])
		}
		want = append(want, Take{note, i, 1})
		check(t, x, i+1, len(b)-i-1, want...)
	}
}

func TestLong(t *testing.T) {
	b := some(rand.New(rand.NewSource(3)), 1<<20+2)
	for _, n := range []int{1<<20 - 1, 1 << 20} {
		// With room behind them, that doesn't count.
		x := made(t, b[:n])
		check(t, x, 0, n)
		refused(t, x, n+1, api.ErrSpent)
		first, second := taken(t, x, "a", n-1), taken(t, x, "b", 1)
		if !bytes.Equal(first, b[:n-1]) || second[0] != b[n-1] {
			t.Errorf("Take of all %d: others", n)
		}
		check(t, x, n, 0, Take{"a", 0, n - 1}, Take{"b", n - 1, 1})
	}
	for _, n := range []int{1<<20 + 1, 1<<20 + 2} {
		if x, err := New(b[:n]); x != nil || err != api.ErrLong {
			t.Errorf("New of %d bytes: %d", n, err)
		}
	}
}

// TestNoBytes: a tape that is spent from the beginning on.
func TestNoBytes(t *testing.T) {
	for what, b := range map[string][]byte{"nil": nil, "no bytes": {}, "no bytes, but room for some": rising(50)[:0]} {
		x := made(t, b)
		check(t, x, 0, 0)
		for _, n := range []int{1, 2, 50, math.MaxInt} {
			if out, err := x.Take("", n); out != nil || err != api.ErrSpent {
				t.Errorf("Take of %d of %s: %v, %d", n, what, out, err)
			}
		}
		check(t, x, 0, 0)
		taken(t, x, "none", 0)
		check(t, x, 0, 0, Take{"none", 0, 0})
	}
}

// TestTakeOfNone: at any place, as often as one likes; it is told like others.
func TestTakeOfNone(t *testing.T) {
	b := rising(5)
	x, want := made(t, b), []Take{}
	for i := range b {
		for _, note := range []string{"", "none", "none"} {
			taken(t, x, note, 0)
			want = append(want, Take{note, i, 0})
			check(t, x, i, len(b)-i, want...)
		}
		if got := taken(t, x, "one", 1); got[0] != b[i] {
			t.Errorf("behind none Take tells %d, not %d", got[0], b[i])
		}
		want = append(want, Take{"one", i, 1})
	}
	taken(t, x, "end", 0)
	check(t, x, len(b), 0, append(want, Take{"end", len(b), 0})...)
}

// TestWrongNumbers: below 0 it is ErrRange, whatever is left; above what is left ErrSpent; and the tape stays.
func TestWrongNumbers(t *testing.T) {
	b := some(rand.New(rand.NewSource(4)), 100)
	x := made(t, b)
	want := []Take{}
	for at := 0; ; at += 10 {
		for _, n := range []int{-1, -2, -100, -101, math.MinInt32, math.MinInt + 1, math.MinInt} {
			refused(t, x, n, api.ErrRange)
		}
		for _, n := range []int{100 - at + 1, 100 - at + 2, 101, 1 << 20, 1<<20 + 1, math.MaxInt32, math.MaxInt - 1, math.MaxInt} {
			refused(t, x, n, api.ErrSpent)
		}
		check(t, x, at, 100-at, want...)
		if at == 100 {
			return
		}
		if got := taken(t, x, "ten", 10); !bytes.Equal(got, b[at:at+10]) {
			t.Fatalf("behind what was refused Take at %d tells others", at)
		}
		want = append(want, Take{"ten", at, 10})
	}
}

// TestNoTape: whatever else is wrong comes later.
func TestNoTape(t *testing.T) {
	var x *Tape
	for _, n := range []int{0, 1, -1, 1 << 20, 1<<20 + 1, math.MinInt, math.MaxInt} {
		for _, note := range []string{"", "a"} {
			if b, err := x.Take(note, n); b != nil || err != api.ErrArg {
				t.Errorf("Take of %d of nil: %v, %d", n, b, err)
			}
		}
	}
	check(t, x, 0, 0)
	for got := range x.Takes() {
		t.Errorf("Takes of nil: %v", got)
	}
}

// TestNotes: any text is a note, more than once too.
func TestNotes(t *testing.T) {
	notes := []string{"", "a", "a", "", "write 3 4294967297 0", "\x00", "\xff\xfe", "ä€😀", "two\nlines", strings.Repeat("long ", 1000), "a"}
	x, want := made(t, rising(len(notes))), []Take{}
	for i, note := range notes {
		taken(t, x, note, 1)
		want = append(want, Take{note, i, 1})
	}
	check(t, x, len(notes), 0, want...)
}

// TestAnyCalls: many calls in any order, against a place in the bytes that goes on.
func TestAnyCalls(t *testing.T) {
	r := rand.New(rand.NewSource(5))
	for range 300 {
		b := some(r, r.Intn(100))
		x, at, want := made(t, b), 0, []Take{}
		for i := range 40 {
			n, note := r.Intn(20)-3, strconv.Itoa(i)
			switch {
			case n < 0:
				refused(t, x, n, api.ErrRange)
			case n > len(b)-at:
				refused(t, x, n, api.ErrSpent)
			default:
				if got := taken(t, x, note, n); !bytes.Equal(got, b[at:at+n]) {
					t.Fatalf("Take of %d at %d: %v, not %v", n, at, got, b[at:at+n])
				}
				want = append(want, Take{note, at, n})
				at += n
			}
			check(t, x, at, len(b)-at, want...)
		}
	}
}

// TestTakesAgain: an iterator tells the same each time, when more were taken too.
func TestTakesAgain(t *testing.T) {
	x := made(t, rising(100))
	want := []Take{}
	for i := range 100 {
		all := x.Takes()
		first := slices.Collect(all)
		taken(t, x, "more", 1)
		refused(t, x, 200, api.ErrSpent)
		second := slices.Collect(all)
		if !slices.Equal(first, want) || !slices.Equal(second, want) {
			t.Fatalf("with %d taken Takes: %v, and then %v", i, first, second)
		}
		want = append(want, Take{"more", i, 1})
		check(t, x, i+1, 99-i, want...)
	}
}

// TestTakesInParts: one may stop, go through it inside of itself, and take in the midst of it.
func TestTakesInParts(t *testing.T) {
	x := made(t, rising(10))
	want := []Take{}
	for i := range 4 {
		taken(t, x, "before", 1)
		want = append(want, Take{"before", i, 1})
	}
	all := x.Takes()
	for stop := range 4 {
		got := []Take{}
		for one := range all {
			if len(got) == stop {
				break
			}
			got = append(got, one)
		}
		if !slices.Equal(got, want[:stop]) {
			t.Errorf("stopped behind %d Takes tells %v", stop, got)
		}
	}
	pairs := 0
	for range all {
		for range all {
			pairs++
		}
		taken(t, x, "amid", 1)
	}
	if pairs != 16 {
		t.Errorf("inside of itself Takes tells %d", pairs)
	}
	for i := range 4 {
		want = append(want, Take{"amid", 4 + i, 1})
	}
	check(t, x, 8, 2, want...)
}

// P12.2

// TestEachByteOnce: however it is cut, what is told is the bytes, each one once, and in order.
func TestEachByteOnce(t *testing.T) {
	r := rand.New(rand.NewSource(6))
	for range 200 {
		b := some(r, r.Intn(2000))
		x, told := made(t, b), []byte{}
		for x.Left() > 0 {
			n := r.Intn(x.Left()+1) % 97
			if r.Intn(4) == 0 {
				refused(t, x, x.Left()+1+n, api.ErrSpent)
				refused(t, x, -1-n, api.ErrRange)
			}
			told = append(told, taken(t, x, "", n)...)
		}
		if !bytes.Equal(told, b) {
			t.Fatalf("of %d bytes others are told", len(b))
		}
		end := 0
		for one := range x.Takes() {
			if one.At != end {
				t.Fatalf("of %d bytes some are taken from %d on, not from %d on", len(b), one.At, end)
			}
			end += one.N
		}
		if end != len(b) {
			t.Fatalf("of %d bytes %d are taken", len(b), end)
		}
	}
}

// TestNothingBehind: an answer's spare room has nothing of what comes next.
func TestNothingBehind(t *testing.T) {
	for n := range 200 {
		x := made(t, bytes.Repeat([]byte{99}, 300))
		b := taken(t, x, "", n)
		if slices.Contains(b[n:cap(b)], 99) {
			t.Errorf("behind an answer of %d bytes stand those that come next", n)
		}
	}
}

// TestApart: tapes of the same bytes go on each for itself.
func TestApart(t *testing.T) {
	b := rising(20)
	x, y := made(t, b), made(t, b)
	if got := taken(t, x, "x", 12); !bytes.Equal(got, b[:12]) {
		t.Errorf("Take of the one: %v", got)
	}
	check(t, y, 0, 20)
	if got := taken(t, y, "y", 5); !bytes.Equal(got, b[:5]) {
		t.Errorf("Take of the other one: %v", got)
	}
	check(t, x, 12, 8, Take{"x", 0, 12})
	check(t, y, 5, 15, Take{"y", 0, 5})
}

func TestNothingIsChanged(t *testing.T) {
	for _, n := range []int{0, 1, 2, 50, 440} {
		b := roomy(rising(n))
		old := slices.Clone(b[:cap(b)])
		x := made(t, b)
		for range n {
			clear(taken(t, x, "one", 1))
		}
		refused(t, x, 1, api.ErrSpent)
		if !bytes.Equal(b[:cap(b)], old) {
			t.Errorf("of %d bytes what is handed in is changed", n)
		}
	}
}

// TestNothingIsKept: what was handed in may be changed, ahead of each byte that is taken.
func TestNothingIsKept(t *testing.T) {
	for _, n := range []int{1, 2, 50, 440} {
		b := roomy(rising(n))
		x := made(t, b)
		for i := range n {
			for j := range b[:cap(b)] {
				b[:cap(b)][j] ^= 255
			}
			if got := taken(t, x, "one", 1); got[0] != byte(i) {
				t.Fatalf("when what was handed in is another, Take at %d tells %d", i, got[0])
			}
		}
		refused(t, x, 1, api.ErrSpent)
	}
}

// TestAnswersAreNew: they may be changed, their spare room too, and other answers stay.
func TestAnswersAreNew(t *testing.T) {
	b := rising(200)
	x, at := made(t, b), 0
	answers := [][]byte{}
	for n := range 15 {
		out := taken(t, x, "", n)
		for _, other := range answers {
			for i := range other[:cap(other)] {
				other[:cap(other)][i] = 200
			}
		}
		if !bytes.Equal(out, b[at:at+n]) {
			t.Fatalf("Take of %d at %d: %v", n, at, out)
		}
		answers = append(answers, out)
		at += n
	}
	last := taken(t, x, "", 3)
	for _, other := range answers {
		clear(other[:cap(other)])
	}
	if !bytes.Equal(last, b[at:at+3]) {
		t.Error("an answer shares something with another one")
	}
	check(t, x, at+3, 200-at-3, slices.Collect(x.Takes())...)
}

// TestTakesAreNew: what is told of them may be changed.
func TestTakesAreNew(t *testing.T) {
	x := made(t, rising(9))
	taken(t, x, "a", 4)
	taken(t, x, "b", 5)
	all := x.Takes()
	for range 2 {
		list := slices.Collect(all)
		for i := range list {
			list[i] = Take{"other", -1, -1}
		}
		for one := range all {
			one.Note, one.At, one.N = "other", -1, -1
		}
	}
	check(t, x, 9, 0, Take{"a", 0, 4}, Take{"b", 4, 5})
}

// TestWhatWasTold: the same bytes and calls have the same answers, the spare room of what is handed in counts for nothing.
func TestWhatWasTold(t *testing.T) {
	b := some(rand.New(rand.NewSource(7)), 300)
	x, y := made(t, b), made(t, roomy(b))
	for _, n := range []int{3, 0, 100, -1, 250, 197, 1, 0} {
		one, err := x.Take("n", n)
		two, other := y.Take("n", n)
		if !bytes.Equal(one, two) || err != other {
			t.Fatalf("Take of %d: %v, %d, and then %v, %d", n, one, err, two, other)
		}
		check(t, y, x.At(), x.Left(), slices.Collect(x.Takes())...)
	}
}
