package medium

import (
	"bytes"
	"math"
	"math/rand"
	"slices"
	"testing"

	"largesse/api"
)

// full: a sector of this byte.
func full(x byte) []byte {
	return bytes.Repeat([]byte{x}, 512)
}

// some: a sector of any bytes.
func some(r *rand.Rand) []byte {
	b := make([]byte, 512)
	for i := range b {
		b[i] = byte(r.Intn(256))
	}
	return b
}

// made: a medium, asked for rightly.
func made(t *testing.T, sectors int, p *Power) *Medium {
	t.Helper()
	m, err := New(sectors, p)
	if m == nil || err != api.OK {
		t.Fatalf("New of %d sectors: %d", sectors, err)
	}
	return m
}

// ok: nothing was refused.
func ok(t *testing.T, errs ...api.Errno) {
	t.Helper()
	for i, err := range errs {
		if err != api.OK {
			t.Fatalf("call %d is refused: %d", i, err)
		}
	}
}

// refused: by that error.
func refused(t *testing.T, what string, got, want api.Errno) {
	t.Helper()
	if got != want {
		t.Errorf("%s: %d, not %d", what, got, want)
	}
}

// shows: what a sector does show.
func shows(t *testing.T, m *Medium, i int, want []byte) {
	t.Helper()
	if got, err := m.Read(i); err != api.OK || !bytes.Equal(got, want) {
		t.Fatalf("sector %d shows %d bytes, %v .., %d, not %v ..", i, len(got), head(got), err, head(want))
	}
}

// head: enough of a sector to tell which one it is.
func head(b []byte) []byte {
	return b[:min(len(b), 4)]
}

// unread: that can't be read, by which error.
func unread(t *testing.T, m *Medium, i int, want api.Errno) {
	t.Helper()
	if got, err := m.Read(i); got != nil || err != want {
		t.Fatalf("Read of %d: %d bytes, %d, not %d", i, len(got), err, want)
	}
}

// caches: what the cache has.
func caches(t *testing.T, m *Medium, want ...Write) {
	t.Helper()
	same := func(a, b Write) bool { return a.Sector == b.Sector && bytes.Equal(a.Data, b.Data) }
	if got := m.Cached(); !slices.EqualFunc(got, want, same) {
		t.Fatalf("the cache has %d writes, not %d, or others", len(got), len(want))
	}
}

// picture: what a snapshot should be, of sectors (nil: it is lost) and of a cache.
func picture(sectors [][]byte, cache ...Write) []byte {
	out := []byte{}
	for _, b := range sectors {
		if b == nil {
			out = append(append(out, 1), full(0)...)
		} else {
			out = append(append(out, 0), b...)
		}
	}
	for _, w := range cache {
		out = append(append(out, byte(w.Sector/256), byte(w.Sector%256)), w.Data...)
	}
	return out
}

// stands: all that is there.
func stands(t *testing.T, m *Medium, sectors [][]byte, cache ...Write) {
	t.Helper()
	if got := m.Snapshot(); !bytes.Equal(got, picture(sectors, cache...)) {
		t.Fatalf("the snapshot is another one, of %d bytes", len(got))
	}
	caches(t, m, cache...)
	if m.Len() != len(sectors) {
		t.Fatalf("Len: %d, not %d", m.Len(), len(sectors))
	}
}

// lasts: how a power stands.
func lasts(t *testing.T, p *Power, on bool, used int) {
	t.Helper()
	if p.On() != on || p.Used() != used {
		t.Fatalf("On %v, Used %d, not %v, %d", p.On(), p.Used(), on, used)
	}
}

// keeps: which of so many writes stay, by a number's bits.
func keeps(bits, n int) []bool {
	keep := make([]bool, n)
	for i := range keep {
		keep[i] = bits>>i&1 == 1
	}
	return keep
}

// P13.1

// TestPowerLasts: so many writes and flushes are let, none more, and what is refused changes nothing.
func TestPowerLasts(t *testing.T) {
	for n := range 30 {
		for flush := range 4 {
			p := NewPower(n)
			m := made(t, 3, p)
			for i := range n {
				lasts(t, p, true, i)
				if i%4 == flush {
					ok(t, m.Flush())
				} else {
					ok(t, m.Write(i%3, full(byte(i+1))))
				}
			}
			lasts(t, p, false, n)
			before := m.Snapshot()
			for range 3 {
				refused(t, "Write without power", m.Write(1, full(99)), api.ErrDown)
				refused(t, "Flush without power", m.Flush(), api.ErrDown)
				unread(t, m, 0, api.ErrDown)
				lasts(t, p, false, n)
			}
			if !bytes.Equal(m.Snapshot(), before) {
				t.Fatal("what is refused changes something")
			}
		}
	}
}

func TestPowerForEver(t *testing.T) {
	for _, left := range []int{-1, -2, -100, math.MinInt32, math.MinInt + 1, math.MinInt} {
		for _, set := range []bool{false, true} {
			p := NewPower(left)
			if set {
				p = NewPower(0)
				p.Set(left)
			}
			m := made(t, 2, p)
			for i := range 300 {
				lasts(t, p, true, 2*i)
				ok(t, m.Write(i%2, full(byte(i))), m.Flush())
				shows(t, m, i%2, full(byte(i)))
			}
			lasts(t, p, true, 600)
		}
	}
}

func TestMuchPower(t *testing.T) {
	p := NewPower(math.MaxInt)
	m := made(t, 1, p)
	for i := range 100 {
		ok(t, m.Write(0, full(byte(i))))
		lasts(t, p, true, i+1)
	}
}

// TestSet: it lasts for so many more, whatever was left, and what was let is counted on.
func TestSet(t *testing.T) {
	p := NewPower(2)
	m := made(t, 1, p)
	used := 0
	for _, left := range []int{3, 0, 5, 1, 0, 0, 2} {
		p.Set(left)
		lasts(t, p, left > 0, used)
		for range left {
			ok(t, m.Flush())
			used++
		}
		lasts(t, p, false, used)
		refused(t, "Flush", m.Flush(), api.ErrDown)
		refused(t, "Write", m.Write(0, full(1)), api.ErrDown)
		lasts(t, p, false, used)
	}
	// In the midst of another number, nothing of that one is left.
	p.Set(100)
	ok(t, m.Flush(), m.Flush())
	p.Set(1)
	ok(t, m.Flush())
	lasts(t, p, false, used+3)
	p.Set(-1)
	ok(t, m.Flush(), m.Flush())
	p.Set(0)
	lasts(t, p, false, used+5)
	refused(t, "Flush", m.Flush(), api.ErrDown)
}

func TestNoPower(t *testing.T) {
	var p *Power
	lasts(t, p, true, 0)
	m := made(t, 2, p)
	for i, left := range []int{0, 1, -1, math.MinInt, math.MaxInt} {
		p.Set(left)
		ok(t, m.Write(1, full(byte(i))), m.Write(0, full(7)), m.Flush())
		shows(t, m, 1, full(byte(i)))
		lasts(t, p, true, 0)
	}
}

// TestOnePower: it is one for some media, of all of which it counts.
func TestOnePower(t *testing.T) {
	p := NewPower(7)
	x, y, z := made(t, 1, p), made(t, 2, p), made(t, 1, NewPower(1))
	ok(t, x.Write(0, full(1)), y.Write(1, full(2)), x.Flush(), y.Flush(), x.Write(0, full(3)), x.Write(0, full(4)), y.Flush())
	lasts(t, p, false, 7)
	for _, m := range []*Medium{x, y} {
		refused(t, "Write", m.Write(0, full(9)), api.ErrDown)
		refused(t, "Flush", m.Flush(), api.ErrDown)
		unread(t, m, 0, api.ErrDown)
	}
	stands(t, x, [][]byte{full(1)}, Write{0, full(3)}, Write{0, full(4)})
	stands(t, y, [][]byte{full(0), full(2)})
	ok(t, z.Write(0, full(5)))
	p.Set(1)
	ok(t, x.Flush())
	refused(t, "Flush", y.Flush(), api.ErrDown)
	lasts(t, p, false, 8)
}

// TestPowerForNothing: what is refused for something else takes none, nor does what is no write and no flush.
func TestPowerForNothing(t *testing.T) {
	p := NewPower(5)
	m := made(t, 2, p)
	var none *Medium
	none.Write(0, full(1))
	none.Flush()
	m.Write(2, full(1))
	m.Write(-1, full(1))
	m.Write(0, nil)
	m.Fail()
	m.Write(0, full(1))
	m.Flush()
	m.Read(0)
	m.Back()
	lasts(t, p, true, 0)
	for range 10 {
		m.Read(0)
		m.Read(5)
		ok(t, m.Lose(0), m.Corrupt(1, full(3)), m.Lose(1))
		m.Crash([]bool{true})
		m.Snapshot()
		m.Cached()
		m.Up()
		m.Len()
		m.Copy(p)
		made(t, 2, p)
	}
	lasts(t, p, true, 0)
	// A flush of nothing is one too.
	ok(t, m.Flush(), m.Flush(), m.Write(0, full(1)), m.Flush(), m.Flush())
	lasts(t, p, false, 5)
}

func TestNew(t *testing.T) {
	for _, n := range []int{1, 2, 3, 22, 1042, 2047, 2048} {
		for _, p := range []*Power{nil, NewPower(-1), NewPower(1)} {
			m := made(t, n, p)
			if m.Len() != n || !m.Up() || len(m.Cached()) != 0 {
				t.Errorf("New of %d: Len %d, Up %v, %d in its cache", n, m.Len(), m.Up(), len(m.Cached()))
			}
			for i := range n {
				shows(t, m, i, full(0))
			}
			unread(t, m, n, api.ErrRange)
			ok(t, m.Write(n-1, full(1)))
		}
	}
	for _, n := range []int{0, -1, -2, 2049, 2050, 1 << 20, math.MaxInt32, math.MinInt32, math.MaxInt, math.MinInt} {
		for _, p := range []*Power{nil, NewPower(-1), NewPower(0)} {
			if m, err := New(n, p); m != nil || err != api.ErrRange {
				t.Errorf("New of %d: %d", n, err)
			}
		}
	}
}

// P13.2

func TestExample(t *testing.T) {
	for _, keep := range [][]bool{nil, {}, {false}, {true}} {
		m := made(t, 2, nil)
		ok(t, m.Write(0, full(7)))
		shows(t, m, 0, full(7))
		m.Crash(keep)
		if len(keep) == 1 && keep[0] {
			shows(t, m, 0, full(7))
		} else {
			shows(t, m, 0, full(0))
		}
		shows(t, m, 1, full(0))
	}
}

// TestLastWriteShows: of many of one sector, flushed or not; the other sectors stay.
func TestLastWriteShows(t *testing.T) {
	r := rand.New(rand.NewSource(1))
	m := made(t, 4, NewPower(-1))
	want := [][]byte{full(0), full(0), full(0), full(0)}
	for range 500 {
		i := r.Intn(4)
		want[i] = some(r)
		ok(t, m.Write(i, want[i]))
		if r.Intn(5) == 0 {
			ok(t, m.Flush())
			stands(t, m, want)
		}
		for j := range want {
			shows(t, m, j, want[j])
		}
	}
}

// TestEachByte: of a sector and of each sector, through the cache and on the medium.
func TestEachByte(t *testing.T) {
	r := rand.New(rand.NewSource(2))
	m := made(t, 2048, nil)
	want := [][]byte{}
	for i := range 2048 {
		want = append(want, some(r))
		ok(t, m.Write(i, want[i]))
	}
	for i := range 2048 {
		shows(t, m, i, want[i])
	}
	ok(t, m.Flush())
	stands(t, m, want)
	for i := range 2048 {
		shows(t, m, i, want[i])
	}
}

// TestWriteErrors: of several that one that the chapter names first.
func TestWriteErrors(t *testing.T) {
	for _, i := range []int{-1, 0, 1, 2, 3, math.MinInt, math.MaxInt} {
		for _, size := range []int{0, 1, 511, 512, 513, 1024} {
			for _, left := range []int{-1, 0, 1} {
				for _, failed := range []bool{false, true} {
					p := NewPower(left)
					m := made(t, 3, p)
					want := api.OK
					if left == 0 {
						want = api.ErrDown
					}
					if size != 512 {
						want = api.ErrForm
					}
					if i < 0 || i > 2 {
						want = api.ErrRange
					}
					if failed {
						m.Fail()
						want = api.ErrDown
					}
					b := make([]byte, size)
					refused(t, "Write", m.Write(i, b), want)
					refused(t, "Write on nil", (*Medium)(nil).Write(i, b), api.ErrArg)
					if want != api.OK {
						stands(t, m, [][]byte{full(0), full(0), full(0)})
						lasts(t, p, left != 0, 0)
					}
				}
			}
		}
	}
	refused(t, "Write of nil", made(t, 1, nil).Write(0, nil), api.ErrForm)
}

func TestReadErrors(t *testing.T) {
	for _, i := range []int{-1, 0, 1, 2, 3, math.MinInt, math.MaxInt} {
		for _, left := range []int{-1, 0, 1} {
			for _, failed := range []bool{false, true} {
				m := made(t, 3, NewPower(left))
				ok(t, m.Lose(1))
				want := api.OK
				if i == 1 {
					want = api.ErrLost
				}
				if i < 0 || i > 2 {
					want = api.ErrRange
				}
				if left == 0 || failed {
					want = api.ErrDown
				}
				if failed {
					m.Fail()
				}
				if want == api.OK {
					shows(t, m, i, full(0))
				} else {
					unread(t, m, i, want)
				}
				unread(t, nil, i, api.ErrArg)
			}
		}
	}
}

func TestFlushErrors(t *testing.T) {
	refused(t, "Flush on nil", (*Medium)(nil).Flush(), api.ErrArg)
	p := NewPower(1)
	m := made(t, 1, p)
	ok(t, m.Write(0, full(1)))
	refused(t, "Flush without power", m.Flush(), api.ErrDown)
	stands(t, m, [][]byte{full(0)}, Write{0, full(1)})
	m.Fail()
	refused(t, "Flush of one that failed, without power", m.Flush(), api.ErrDown)
	p.Set(1)
	refused(t, "Flush of one that failed", m.Flush(), api.ErrDown)
	lasts(t, p, true, 1)
	m.Back()
	ok(t, m.Flush())
	stands(t, m, [][]byte{full(0)})
}

// TestCacheGoes: what was flushed isn't in the cache any more, and isn't written again.
func TestCacheGoes(t *testing.T) {
	m := made(t, 2, nil)
	ok(t, m.Write(0, full(1)), m.Flush(), m.Corrupt(0, full(2)), m.Write(1, full(3)), m.Flush())
	stands(t, m, [][]byte{full(2), full(3)})
	ok(t, m.Flush())
	m.Crash([]bool{true, true})
	stands(t, m, [][]byte{full(2), full(3)})
}

// P13.3

// TestCrash: each choice of writes of which some are of one sector, and fewer or more choices than writes.
func TestCrash(t *testing.T) {
	writes := []Write{{1, full(1)}, {0, full(2)}, {1, full(3)}, {2, full(4)}, {1, full(5)}, {0, full(6)}}
	for n := range 9 {
		for bits := range 1 << n {
			m := made(t, 4, nil)
			ok(t, m.Write(0, full(10)), m.Write(1, full(11)), m.Flush())
			want := [][]byte{full(10), full(11), full(0), full(0)}
			for i, w := range writes {
				ok(t, m.Write(w.Sector, w.Data))
				if bits>>i&1 == 1 {
					want[w.Sector] = w.Data
				}
			}
			m.Crash(keeps(bits, n))
			stands(t, m, want)
			for i := range want {
				shows(t, m, i, want[i])
			}
			// Nothing is on its way any more.
			m.Crash(keeps(-1, 9))
			ok(t, m.Flush())
			stands(t, m, want)
		}
	}
}

// TestLost: till another write is flushed, or stays behind a crash; a write in the cache shows.
func TestLost(t *testing.T) {
	for _, way := range []string{"flush", "kept", "gone", "fail", "lost again", "corrupt"} {
		m := made(t, 2, nil)
		ok(t, m.Write(1, full(8)), m.Flush(), m.Lose(1))
		unread(t, m, 1, api.ErrLost)
		ok(t, m.Flush())
		m.Crash(nil)
		unread(t, m, 1, api.ErrLost)
		stands(t, m, [][]byte{full(0), nil})
		ok(t, m.Write(1, full(9)))
		shows(t, m, 1, full(9))
		stands(t, m, [][]byte{full(0), nil}, Write{1, full(9)})
		want, back := []byte(nil), false
		switch way {
		case "flush":
			ok(t, m.Flush())
			want, back = full(9), true
		case "kept":
			m.Crash([]bool{true})
			want, back = full(9), true
		case "gone":
			m.Crash([]bool{false})
		case "fail":
			m.Fail()
			m.Back()
		case "lost again":
			ok(t, m.Lose(1))
		case "corrupt":
			ok(t, m.Corrupt(1, full(10)))
			want, back = full(10), true
		}
		stands(t, m, [][]byte{full(0), want})
		if back {
			shows(t, m, 1, want)
		} else {
			unread(t, m, 1, api.ErrLost)
		}
		shows(t, m, 0, full(0))
	}
}

// TestWriteOfAnotherSector: it doesn't bring back one that is lost.
func TestWriteOfAnotherSector(t *testing.T) {
	m := made(t, 3, nil)
	ok(t, m.Lose(1), m.Write(0, full(1)), m.Write(2, full(2)), m.Flush())
	stands(t, m, [][]byte{full(1), nil, full(2)})
	ok(t, m.Write(0, full(3)))
	m.Crash([]bool{true})
	stands(t, m, [][]byte{full(3), nil, full(2)})
	unread(t, m, 1, api.ErrLost)
}

// TestLoseAndCorrupt: the sector's writes in the cache go, the others stay, in order.
func TestLoseAndCorrupt(t *testing.T) {
	writes := []Write{{1, full(1)}, {0, full(2)}, {1, full(3)}, {2, full(4)}, {0, full(5)}, {1, full(6)}}
	for i := range 4 {
		rest := slices.DeleteFunc(slices.Clone(writes), func(w Write) bool { return w.Sector == i })
		for _, lose := range []bool{true, false} {
			m := made(t, 4, nil)
			ok(t, m.Write(i, full(20)), m.Flush())
			for _, w := range writes {
				ok(t, m.Write(w.Sector, w.Data))
			}
			want := [][]byte{full(0), full(0), full(0), full(0)}
			if lose {
				ok(t, m.Lose(i))
				want[i] = nil
				unread(t, m, i, api.ErrLost)
			} else {
				ok(t, m.Corrupt(i, full(30)))
				want[i] = full(30)
				shows(t, m, i, full(30))
			}
			stands(t, m, want, rest...)
			ok(t, m.Flush())
			for _, w := range rest {
				want[w.Sector] = w.Data
			}
			stands(t, m, want)
		}
	}
}

func TestLoseAndCorruptErrors(t *testing.T) {
	var none *Medium
	for _, i := range []int{-1, 0, 1, 2, 3, math.MinInt, math.MaxInt} {
		refused(t, "Lose on nil", none.Lose(i), api.ErrArg)
		for _, size := range []int{0, 1, 511, 512, 513, 1024} {
			b := make([]byte, size)
			refused(t, "Corrupt on nil", none.Corrupt(i, b), api.ErrArg)
			if size == 512 && 0 <= i && i < 3 {
				continue
			}
			m := made(t, 3, nil)
			ok(t, m.Write(0, full(1)), m.Write(2, full(2)))
			want := api.ErrForm
			if i < 0 || i > 2 {
				want = api.ErrRange
				refused(t, "Lose", m.Lose(i), want)
			}
			refused(t, "Corrupt", m.Corrupt(i, b), want)
			stands(t, m, [][]byte{full(0), full(0), full(0)}, Write{0, full(1)}, Write{2, full(2)})
		}
	}
	refused(t, "Corrupt by nil", made(t, 1, nil).Corrupt(0, nil), api.ErrForm)
}

// TestFail: nothing is read or written till it comes back; its cache is gone at once, what was flushed stays.
func TestFail(t *testing.T) {
	p := NewPower(-1)
	m := made(t, 2, p)
	m.Back()
	ok(t, m.Write(0, full(1)), m.Flush(), m.Write(0, full(2)), m.Write(1, full(3)))
	for range 2 {
		m.Fail()
		if m.Up() {
			t.Error("Up of one that failed")
		}
		stands(t, m, [][]byte{full(1), full(0)})
		refused(t, "Write", m.Write(0, full(4)), api.ErrDown)
		refused(t, "Flush", m.Flush(), api.ErrDown)
		unread(t, m, 0, api.ErrDown)
		m.Crash([]bool{true, true, true})
		if m.Up() {
			t.Error("a crash brings back one that failed")
		}
		stands(t, m, [][]byte{full(1), full(0)})
	}
	lasts(t, p, true, 4)
	for range 2 {
		m.Back()
		if !m.Up() {
			t.Error("not Up of one that is back")
		}
		shows(t, m, 0, full(1))
		shows(t, m, 1, full(0))
	}
	ok(t, m.Write(1, full(5)))
	m.Back()
	stands(t, m, [][]byte{full(1), full(0)}, Write{1, full(5)})
	ok(t, m.Flush())
	stands(t, m, [][]byte{full(1), full(5)})
}

// TestWithoutPower: these need none, on one that failed neither.
func TestWithoutPower(t *testing.T) {
	for _, failed := range []bool{false, true} {
		p := NewPower(3)
		m := made(t, 4, p)
		ok(t, m.Write(0, full(1)), m.Write(1, full(2)), m.Write(2, full(3)))
		lasts(t, p, false, 3)
		if failed {
			m.Fail()
			if m.Up() || len(m.Cached()) > 0 {
				t.Error("without power Fail does nothing")
			}
			ok(t, m.Lose(0), m.Corrupt(3, full(4)))
			stands(t, m, [][]byte{nil, full(0), full(0), full(4)})
			m.Back()
		} else {
			ok(t, m.Lose(0), m.Corrupt(3, full(4)))
			stands(t, m, [][]byte{nil, full(0), full(0), full(4)}, Write{1, full(2)}, Write{2, full(3)})
			m.Crash([]bool{false, true})
			stands(t, m, [][]byte{nil, full(0), full(3), full(4)})
		}
		if !m.Up() || m.Len() != 4 {
			t.Errorf("without power: Up %v, Len %d", m.Up(), m.Len())
		}
		unread(t, m, 3, api.ErrDown)
		lasts(t, p, false, 3)
		p.Set(1)
		shows(t, m, 3, full(4))
		unread(t, m, 0, api.ErrLost)
	}
}

// TestSnapshot: byte by byte, with a sector's number in two bytes, the highest bits first.
func TestSnapshot(t *testing.T) {
	m := made(t, 2048, nil)
	ok(t, m.Write(3, full(1)), m.Flush(), m.Lose(3), m.Lose(2047), m.Corrupt(0, full(2)))
	ok(t, m.Write(2047, full(4)), m.Write(258, full(5)), m.Write(2047, full(6)), m.Write(0, full(7)))
	b := m.Snapshot()
	if len(b) != 2048*513+4*514 {
		t.Fatalf("Snapshot: %d bytes", len(b))
	}
	for i := range 2048 {
		one, lost, want := b[i*513:][:513], byte(0), byte(0)
		switch i {
		case 0:
			want = 2
		case 3, 2047:
			lost = 1
		}
		if one[0] != lost || !bytes.Equal(one[1:], full(want)) {
			t.Errorf("sector %d of the snapshot: %d, %v ..", i, one[0], head(one[1:]))
		}
	}
	for i, want := range [][]byte{{7, 255, 4}, {1, 2, 5}, {7, 255, 6}, {0, 0, 7}} {
		one := b[2048*513+i*514:][:514]
		if !bytes.Equal(one[:2], want[:2]) || !bytes.Equal(one[2:], full(want[2])) {
			t.Errorf("write %d of the snapshot: %v ..", i, head(one))
		}
	}
	caches(t, m, Write{2047, full(4)}, Write{258, full(5)}, Write{2047, full(6)}, Write{0, full(7)})
}

// TestLostTellsNothing: of what was there ahead of it.
func TestLostTellsNothing(t *testing.T) {
	m := made(t, 1, nil)
	ok(t, m.Write(0, full(77)), m.Flush(), m.Write(0, full(77)), m.Lose(0))
	if slices.Contains(m.Snapshot(), 77) || slices.Contains(m.Copy(nil).Snapshot(), 77) {
		t.Error("a snapshot tells what was in a sector that is lost")
	}
}

// TestCopy: it is as it was, and from then on each goes its own way.
func TestCopy(t *testing.T) {
	p, q := NewPower(10), NewPower(2)
	m := made(t, 4, p)
	ok(t, m.Write(0, full(1)), m.Flush(), m.Lose(1), m.Write(2, full(2)), m.Write(0, full(3)))
	one, cache := [][]byte{full(1), nil, full(0), full(0)}, []Write{{2, full(2)}, {0, full(3)}}
	c := m.Copy(q)
	stands(t, c, one, cache...)
	lasts(t, q, true, 0)
	lasts(t, p, true, 4)

	ok(t, c.Flush(), c.Write(3, full(4)), c.Lose(0), c.Corrupt(1, full(5)))
	lasts(t, q, false, 2)
	lasts(t, p, true, 4)
	stands(t, m, one, cache...)
	refused(t, "Flush of the copy", c.Flush(), api.ErrDown)
	c.Fail()
	if !m.Up() {
		t.Error("a copy that failed is the one that it was made of")
	}

	ok(t, m.Corrupt(2, full(6)), m.Lose(3))
	m.Crash([]bool{true})
	stands(t, m, [][]byte{full(3), nil, full(6), nil})
	stands(t, c, [][]byte{nil, full(5), full(2), full(0)})
}

// TestCopyOfCache: of any length, so that with or without spare room neither writes into the other one's, nor takes out of it.
func TestCopyOfCache(t *testing.T) {
	blank := [][]byte{full(0), full(0)}
	for n := range 20 {
		m := made(t, 2, nil)
		cache := []Write{}
		for i := range n {
			cache = append(cache, Write{i % 2, full(byte(i + 1))})
			ok(t, m.Write(i%2, full(byte(i+1))))
		}
		c, d := m.Copy(nil), m.Copy(nil)
		ok(t, c.Write(1, full(100)), m.Write(0, full(101)), d.Lose(0))
		stands(t, c, blank, append(slices.Clone(cache), Write{1, full(100)})...)
		stands(t, m, blank, append(slices.Clone(cache), Write{0, full(101)})...)
		rest := slices.DeleteFunc(slices.Clone(cache), func(w Write) bool { return w.Sector == 0 })
		stands(t, d, [][]byte{nil, full(0)}, rest...)
		ok(t, m.Corrupt(1, full(102)))
		stands(t, c, blank, append(slices.Clone(cache), Write{1, full(100)})...)
	}
}

func TestCopyOfWhatFailed(t *testing.T) {
	p := NewPower(1)
	m := made(t, 2, p)
	ok(t, m.Corrupt(1, full(1)))
	m.Fail()
	c := m.Copy(nil)
	if c.Up() {
		t.Error("a copy of one that failed is Up")
	}
	unread(t, c, 1, api.ErrDown)
	c.Back()
	shows(t, c, 1, full(1))
	for range 5 {
		ok(t, c.Write(0, full(2)), c.Flush())
	}
	lasts(t, p, true, 0)
	if m.Up() {
		t.Error("one is back with its copy")
	}
}

// TestCopyOnSamePower: then it counts what both do.
func TestCopyOnSamePower(t *testing.T) {
	p := NewPower(2)
	m := made(t, 1, p)
	c := m.Copy(p)
	ok(t, m.Write(0, full(1)), c.Write(0, full(2)))
	refused(t, "Flush", m.Flush(), api.ErrDown)
	refused(t, "Flush of the copy", c.Flush(), api.ErrDown)
	lasts(t, p, false, 2)
	stands(t, m, [][]byte{full(0)}, Write{0, full(1)})
	stands(t, c, [][]byte{full(0)}, Write{0, full(2)})
}

func TestNoMedium(t *testing.T) {
	var m *Medium
	for range 2 {
		if m.Snapshot() != nil || m.Cached() != nil || m.Up() || m.Len() != 0 {
			t.Errorf("of nil: %v, %v, %v, %d", m.Snapshot(), m.Cached(), m.Up(), m.Len())
		}
		if m.Copy(nil) != nil || m.Copy(NewPower(3)) != nil {
			t.Error("a copy of nil")
		}
		m.Crash(nil)
		m.Crash([]bool{true})
		m.Fail()
		m.Back()
	}
}

// P13.4

// plain is a medium as it is told, one thing behind the other, that is never forgotten.
type plain struct {
	sectors [][]byte
	cache   []Write
	failed  bool
}

// shows: what a sector should show; nil: it is lost.
func (p *plain) shows(i int) []byte {
	out := p.sectors[i]
	for _, w := range p.cache {
		if w.Sector == i {
			out = w.Data
		}
	}
	return out
}

// settle: those of the cache that stay come to their sectors, the others go.
func (p *plain) settle(stays func(i int) bool) {
	for i, w := range p.cache {
		if stays(i) {
			p.sectors[w.Sector] = w.Data
		}
	}
	p.cache = nil
}

// put: a sector has these bytes, or is lost, whatever is in the cache.
func (p *plain) put(i int, b []byte) {
	p.sectors[i] = b
	rest := []Write{}
	for _, w := range p.cache {
		if w.Sector != i {
			rest = append(rest, w)
		}
	}
	p.cache = rest
}

// step: any one thing is done to both.
func step(t *testing.T, r *rand.Rand, m *Medium, p *plain) {
	t.Helper()
	i, b := r.Intn(len(p.sectors)), some(r)
	down := api.OK
	if p.failed {
		down = api.ErrDown
	}
	switch r.Intn(24) {
	default:
		refused(t, "Write", m.Write(i, b), down)
		if !p.failed {
			p.cache = append(p.cache, Write{i, b})
		}
	case 0, 1, 2:
		refused(t, "Flush", m.Flush(), down)
		p.settle(func(int) bool { return true })
	case 3, 4:
		keep := keeps(r.Int(), r.Intn(20))
		m.Crash(keep)
		p.settle(func(i int) bool { return i < len(keep) && keep[i] })
	case 5:
		m.Fail()
		p.cache, p.failed = nil, true
	case 6, 7, 8, 9:
		m.Back()
		p.failed = false
	case 10:
		ok(t, m.Lose(i))
		p.put(i, nil)
	case 11:
		ok(t, m.Corrupt(i, b))
		p.put(i, b)
	}
}

// TestAnyCalls: many in any order, against what is told of each.
func TestAnyCalls(t *testing.T) {
	r := rand.New(rand.NewSource(3))
	for range 60 {
		p := &plain{}
		for range 1 + r.Intn(6) {
			p.sectors = append(p.sectors, full(0))
		}
		m := made(t, len(p.sectors), NewPower(-1))
		for n := range 200 {
			if n%50 == 49 {
				m = m.Copy(nil)
			}
			step(t, r, m, p)
			stands(t, m, p.sectors, p.cache...)
			if m.Up() == p.failed {
				t.Fatalf("Up: %v", m.Up())
			}
			for i := range p.sectors {
				if want := p.shows(i); p.failed {
					unread(t, m, i, api.ErrDown)
				} else if want == nil {
					unread(t, m, i, api.ErrLost)
				} else {
					shows(t, m, i, want)
				}
			}
		}
	}
}

// TestFlushedStays: whatever crashes come, of whatever is written, wherever the power ends.
func TestFlushedStays(t *testing.T) {
	r := rand.New(rand.NewSource(4))
	for left := range 12 {
		for bits := range 64 {
			p := NewPower(-1)
			m := made(t, 3, p)
			want := [][]byte{some(r), some(r), some(r)}
			for i := range want {
				ok(t, m.Write(i, want[i]))
			}
			ok(t, m.Flush())
			// Two more changes of sector 1, the one flushed, the other not.
			p.Set(left)
			may := [][]byte{want[1]}
			for range 2 {
				for n := range 4 {
					b := full(byte(n))
					if m.Write(1, b) == api.OK {
						may = append(may, b)
					}
				}
				if m.Flush() == api.OK {
					may = may[len(may)-1:]
				}
			}
			m.Crash(keeps(bits, 6))
			m.Crash(nil)
			p.Set(-1)
			shows(t, m, 0, want[0])
			shows(t, m, 2, want[2])
			got, err := m.Read(1)
			if err != api.OK || !slices.ContainsFunc(may, func(b []byte) bool { return bytes.Equal(b, got) }) {
				t.Fatalf("with power for %d sector 1 has %v .., %d", left, head(got), err)
			}
		}
	}
}

// TestNothingIsChangedOrKept: what was handed in stays, with its room, and may be another afterwards.
func TestNothingIsChangedOrKept(t *testing.T) {
	m := made(t, 3, nil)
	room := append(full(1), full(2)...)
	old := slices.Clone(room)
	b := room[:512]
	keep := []bool{true, false, true, true}
	ok(t, m.Write(0, b), m.Corrupt(1, b), m.Write(2, b), m.Write(2, full(3)))
	m.Snapshot()
	m.Cached()
	m.Read(0)
	if !bytes.Equal(room, old) {
		t.Error("what is handed in is changed")
	}
	for i := range room {
		room[i] = 99
	}
	stands(t, m, [][]byte{full(0), full(1), full(0)}, Write{0, full(1)}, Write{2, full(1)}, Write{2, full(3)})
	m.Crash(keep)
	if !slices.Equal(keep, []bool{true, false, true, true}) {
		t.Error("what a crash is handed is changed")
	}
	clear(room)
	stands(t, m, [][]byte{full(1), full(1), full(3)})
	ok(t, m.Write(0, b), m.Flush())
	for i := range room {
		room[i] = 99
	}
	shows(t, m, 0, full(0))
}

// spoil: all of a list, its room too.
func spoil(b []byte) {
	b = b[:cap(b)]
	for i := range b {
		b[i] ^= 255
	}
}

// TestAnswersAreNew: they may be changed, and neither the medium nor other answers are.
func TestAnswersAreNew(t *testing.T) {
	m := made(t, 2, nil)
	ok(t, m.Corrupt(0, full(1)), m.Write(1, full(2)), m.Write(1, full(3)))
	sectors, cache := [][]byte{full(1), full(0)}, []Write{{1, full(2)}, {1, full(3)}}
	c := m.Copy(nil)
	first, second := m.Snapshot(), m.Snapshot()
	spoil(first)
	if !bytes.Equal(second, picture(sectors, cache...)) {
		t.Error("snapshots share something")
	}
	for i, want := range [][]byte{full(1), full(3)} {
		one, _ := m.Read(i)
		two, _ := m.Read(i)
		spoil(one)
		if !bytes.Equal(two, want) {
			t.Errorf("of sector %d answers share something", i)
		}
		spoil(two)
	}
	one, two := m.Cached(), m.Cached()
	spoil(one[0].Data)
	if !bytes.Equal(one[1].Data, full(3)) || !bytes.Equal(two[0].Data, full(2)) {
		t.Error("what the cache tells shares something")
	}
	one[1] = Write{77, nil}
	_ = append(two[:1], Write{78, nil})
	for _, w := range m.Cached() {
		spoil(w.Data)
	}
	stands(t, m, sectors, cache...)
	stands(t, c, sectors, cache...)
	ok(t, m.Flush())
	stands(t, m, [][]byte{full(1), full(3)})
}

// TestAnswersStay: what was told stays as it was, whatever comes.
func TestAnswersStay(t *testing.T) {
	m := made(t, 2, nil)
	ok(t, m.Write(0, full(1)), m.Write(1, full(2)))
	snapshot, cached := m.Snapshot(), m.Cached()
	inCache, _ := m.Read(0)
	ok(t, m.Flush())
	flushed, _ := m.Read(0)
	ok(t, m.Write(0, full(5)), m.Flush(), m.Corrupt(0, full(6)), m.Corrupt(1, full(7)), m.Lose(0))
	m.Fail()
	if !bytes.Equal(snapshot, picture([][]byte{full(0), full(0)}, Write{0, full(1)}, Write{1, full(2)})) {
		t.Error("a snapshot goes on")
	}
	if !bytes.Equal(inCache, full(1)) || !bytes.Equal(flushed, full(1)) {
		t.Error("what was read goes on")
	}
	if len(cached) != 2 || !bytes.Equal(cached[0].Data, full(1)) || !bytes.Equal(cached[1].Data, full(2)) {
		t.Error("what the cache told goes on")
	}
}
