package journal

import (
	"bytes"
	"encoding/binary"
	"math"
	"math/rand"
	"slices"
	"testing"

	"largesse/api"
	"largesse/medium"
	"largesse/sector"
)

// padded: a sector that begins so.
func padded(begin []byte) []byte {
	return append(bytes.Clone(begin), make([]byte, 512-len(begin))...)
}

// full: a sector of this byte.
func full(x byte) []byte {
	return bytes.Repeat([]byte{x}, 512)
}

// shareBytes: a share's sector, laid out by hand.
func shareBytes(s sector.Share) []byte {
	b := []byte{'L', 'S', s.Mode, s.Place}
	b = binary.BigEndian.AppendUint32(b, s.Stripe)
	b = binary.BigEndian.AppendUint64(b, s.Gen)
	b = binary.BigEndian.AppendUint16(b, uint16(len(s.Row)))
	b = append(b, make([]byte, 32-len(b))...)
	return padded(append(b, s.Row...))
}

// commitBytes: a commit sector, laid out by hand.
func commitBytes(state, count byte, gen uint64) []byte {
	return padded(binary.BigEndian.AppendUint64([]byte{'L', 'C', state, count}, gen))
}

// superBytes: a super sector.
func superBytes(t *testing.T, s sector.Super) []byte {
	t.Helper()
	b, err := s.Bytes()
	ok(t, err)
	return b
}

// anyShare: one of a stripe and a generation.
func anyShare(r *rand.Rand, stripe int, gen uint64) sector.Share {
	row := make([]byte, r.Intn(481))
	r.Read(row)
	return sector.Share{Mode: byte(r.Intn(2)), Place: byte(1 + r.Intn(255)), Stripe: uint32(stripe), Gen: gen, Row: row}
}

// anyChange: so many shares of unlike stripes.
func anyChange(r *rand.Rand, n, blocks int, gen uint64) []sector.Share {
	out := []sector.Share{}
	for _, stripe := range r.Perm(blocks)[:n] {
		out = append(out, anyShare(r, stripe, gen))
	}
	return out
}

// aSuper: one with something everywhere.
func aSuper() sector.Super {
	s := sector.Super{Name: [8]byte{'l', 'a', 'r', 'g', 'e', 's', 's', 'e'}, Place: 2, N: 10, T: 3, Mode: 1, C: 4,
		Blocks: 20, Boot: 7, Epoch: 8, Refresh: 9, Scrub: 10, Target: 5, Resync: 11}
	s.In[1], s.In[2], s.In[10] = true, true, true
	return s
}

// sameShare: are two shares the same?
func sameShare(a, b sector.Share) bool {
	return a.Mode == b.Mode && a.Place == b.Place && a.Stripe == b.Stripe && a.Gen == b.Gen && bytes.Equal(a.Row, b.Row)
}

// made: a medium of noughts.
func made(t *testing.T, sectors int, p *medium.Power) *medium.Medium {
	t.Helper()
	m, err := medium.New(sectors, p)
	ok(t, err)
	return m
}

// littered: a medium of so many sectors, each with bytes of its own.
func littered(t *testing.T, sectors int, p *medium.Power) *medium.Medium {
	t.Helper()
	m := made(t, sectors, p)
	for i := range sectors {
		lay(t, m, i, full(byte(i+1)))
	}
	return m
}

// lay: bytes onto a medium, without any power.
func lay(t *testing.T, m *medium.Medium, i int, b []byte) {
	t.Helper()
	ok(t, m.Corrupt(i, b))
}

// ok: nothing was refused.
func ok(t *testing.T, errs ...api.Errno) {
	t.Helper()
	for i, err := range errs {
		if err != api.OK {
			t.Fatalf("call %d is refused: %d", i, err)
		}
	}
}

// refused: by that error.
func refused(t *testing.T, what string, got, want api.Errno) {
	t.Helper()
	if got != want {
		t.Errorf("%s: %d, not %d", what, got, want)
	}
}

// write is a sector, and its bytes.
type write struct {
	at   int
	data []byte
}

// laidOver: the sectors, with writes laid over them.
func laidOver(sectors [][]byte, writes []write) [][]byte {
	out := slices.Clone(sectors)
	for _, w := range writes {
		out[w.at] = w.data
	}
	return out
}

// has: all that a medium has is these sectors (nil: one that is lost), and this in its cache.
func has(t *testing.T, what string, m *medium.Medium, sectors [][]byte, cache []write) {
	t.Helper()
	out := []byte{}
	for _, b := range sectors {
		if b == nil {
			out = append(append(out, 1), full(0)...)
		} else {
			out = append(append(out, 0), b...)
		}
	}
	for _, w := range cache {
		out = append(append(out, byte(w.at>>8), byte(w.at)), w.data...)
	}
	if !bytes.Equal(m.Snapshot(), out) {
		t.Fatalf("%s: the medium has something else", what)
	}
}

// sectorsOf: what each sector of a medium is, beneath the cache (nil: lost).
func sectorsOf(m *medium.Medium) [][]byte {
	all := m.Snapshot()
	out := [][]byte{}
	for i := range m.Len() {
		if all[513*i] == 1 {
			out = append(out, nil)
		} else {
			out = append(out, all[513*i+1:513*i+513])
		}
	}
	return out
}

// stands: what Look tells.
func stands(t *testing.T, m *medium.Medium, commit sector.Commit, slots ...sector.Share) {
	t.Helper()
	s, err := Look(m)
	if err != api.OK || s.Commit != commit {
		t.Fatalf("what stands: %v, %d, not %v", s.Commit, err, commit)
	}
	if !slices.EqualFunc(s.Slots, slots, sameShare) {
		t.Fatalf("there stand %d slots, not %d, or others", len(s.Slots), len(slots))
	}
}

// noStand: that can't be looked at, by which error.
func noStand(t *testing.T, what string, m *medium.Medium, want api.Errno) {
	t.Helper()
	if s, err := Look(m); err != want || s.Commit != (sector.Commit{}) || len(s.Slots) != 0 {
		t.Errorf("Look, %s: %v, %d, not %d", what, s, err, want)
	}
}

// isHome: what Home tells.
func isHome(t *testing.T, m *medium.Medium, stripe int, want sector.Share) {
	t.Helper()
	if s, err := Home(m, stripe); err != api.OK || !sameShare(s, want) {
		t.Fatalf("home %d: %v, %d, not %v", stripe, s, err, want)
	}
}

// noHome: that tells nothing, by which error.
func noHome(t *testing.T, what string, m *medium.Medium, stripe int, want api.Errno) {
	t.Helper()
	if s, err := Home(m, stripe); err != want || !sameShare(s, sector.Share{}) {
		t.Errorf("Home %d, %s: %v, %d, not %d", stripe, what, s, err, want)
	}
}

// noSuper: that tells nothing, by which error.
func noSuper(t *testing.T, what string, m *medium.Medium, want api.Errno) {
	t.Helper()
	if s, err := Super(m); err != want || s != (sector.Super{}) {
		t.Errorf("Super, %s: %v, %d, not %d", what, s, err, want)
	}
}

// call is one that writes, with all that it should write, and whether it should flush that.
type call struct {
	name   string
	run    func(m *medium.Medium) api.Errno
	writes []write
	flush  bool
}

// need: how much power it takes.
func (c call) need() int {
	if c.flush {
		return len(c.writes) + 1
	}
	return len(c.writes)
}

// stage: the call, and what it should write.
func stage(l []sector.Share) call {
	writes := []write{}
	for i, s := range l {
		writes = append(writes, write{2 + i, shareBytes(s)})
	}
	return call{"Stage", func(m *medium.Medium) api.Errno { return Stage(m, l) }, writes, true}
}

// mark: the call, and what it should write.
func mark(gen uint64, count int) call {
	writes := []write{{1, commitBytes(1, byte(count), gen)}}
	return call{"Mark", func(m *medium.Medium) api.Errno { return Mark(m, gen, count) }, writes, true}
}

// apply: the call, and what it should write.
func apply(l []sector.Share) call {
	writes := []write{}
	for _, s := range l {
		writes = append(writes, write{18 + int(s.Stripe), shareBytes(s)})
	}
	return call{"Apply", func(m *medium.Medium) api.Errno { return Apply(m, l) }, writes, true}
}

// clears: the call, and what it should write.
func clears(gen uint64) call {
	writes := []write{}
	for i := range 16 {
		writes = append(writes, write{2 + i, full(0)})
	}
	writes = append(writes, write{1, commitBytes(2, 0, gen)})
	return call{"Clear", func(m *medium.Medium) api.Errno { return Clear(m, gen) }, writes, true}
}

// putHome: the call, and what it should write.
func putHome(s sector.Share) call {
	return call{"PutHome", func(m *medium.Medium) api.Errno { return PutHome(m, s) }, []write{{18 + int(s.Stripe), shareBytes(s)}}, false}
}

// putSuper: the call, and what it should write.
func putSuper(t *testing.T, s sector.Super) call {
	return call{"PutSuper", func(m *medium.Medium) api.Errno { return PutSuper(m, s) }, []write{{0, superBytes(t, s)}}, false}
}

// change: the calls that a change makes, in order.
func change(l []sector.Share, gen uint64) []call {
	return []call{stage(l), mark(gen, len(l)), apply(l), clears(gen)}
}

// badShares: shares that can't be, on a medium of 5 homes.
func badShares() map[string]sector.Share {
	return map[string]sector.Share{
		"mode 2":         {Mode: 2, Place: 1, Gen: 3},
		"mode 255":       {Mode: 255, Place: 1, Gen: 3},
		"place 0":        {Gen: 3},
		"a long row":     {Place: 1, Gen: 3, Row: make([]byte, 481)},
		"stripe 5":       {Place: 1, Gen: 3, Stripe: 5},
		"stripe 6":       {Place: 1, Gen: 3, Stripe: 6},
		"stripe 1024":    {Place: 1, Gen: 3, Stripe: 1024},
		"stripe 2^31":    {Place: 1, Gen: 3, Stripe: 1 << 31},
		"stripe 2^32-19": {Place: 1, Gen: 3, Stripe: math.MaxUint32 - 18},
		"stripe 2^32-18": {Place: 1, Gen: 3, Stripe: math.MaxUint32 - 17},
		"stripe 2^32-14": {Place: 1, Gen: 3, Stripe: math.MaxUint32 - 13},
		"stripe 2^32-1":  {Place: 1, Gen: 3, Stripe: math.MaxUint32},
	}
}

// deadMedium is one that takes nothing, and why.
type deadMedium struct {
	name string
	m    *medium.Medium
	err  api.Errno
}

// dead: media of 5 homes that take nothing.
func dead(t *testing.T) []deadMedium {
	out := []deadMedium{
		{"nil", nil, api.ErrArg},
		{"failed", littered(t, 23, nil), api.ErrDown},
		{"without power", littered(t, 23, medium.NewPower(0)), api.ErrDown},
		{"failed, without power", littered(t, 23, medium.NewPower(0)), api.ErrDown},
	}
	out[1].m.Fail()
	out[3].m.Fail()
	return out
}

// P15.1

func TestPlaces(t *testing.T) {
	if SuperAt != 0 || CommitAt != 1 || SlotAt != 2 || HomeAt != 18 {
		t.Error(SuperAt, CommitAt, SlotAt, HomeAt)
	}
}

func TestSectors(t *testing.T) {
	for blocks := 1; blocks <= 1024; blocks++ {
		if got := Sectors(blocks); got != 18+blocks {
			t.Fatalf("of %d blocks: %d", blocks, got)
		}
	}
	for _, blocks := range []int{0, -1, -17, -18, -19, 1025, 1026, 2030, 2031, 1 << 32, 1<<32 + 1, math.MinInt, math.MinInt + 1, math.MaxInt - 18, math.MaxInt} {
		if got := Sectors(blocks); got != 0 {
			t.Errorf("of %d blocks: %d", blocks, got)
		}
	}
}

// goes: a call writes what it should, where it should, in order; as far as the power lasts; and nothing else.
func goes(t *testing.T, c call, sectors int) {
	t.Helper()
	before := sectorsOf(littered(t, sectors, nil))
	for left := range c.need() {
		p := medium.NewPower(left)
		m := littered(t, sectors, p)
		refused(t, c.name+" of too little power", c.run(m), api.ErrDown)
		has(t, c.name+" of too little power", m, before, c.writes[:left])
		if p.Used() != left {
			t.Fatalf("%s uses %d, not %d", c.name, p.Used(), left)
		}
	}
	for _, more := range []int{0, 1, 100} {
		p := medium.NewPower(c.need() + more)
		m := littered(t, sectors, p)
		ok(t, c.run(m))
		if c.flush {
			has(t, c.name, m, laidOver(before, c.writes), nil)
		} else {
			has(t, c.name, m, before, c.writes)
		}
		if p.Used() != c.need() {
			t.Fatalf("%s uses %d, not %d", c.name, p.Used(), c.need())
		}
	}
}

func TestWrites(t *testing.T) {
	r := rand.New(rand.NewSource(1))
	for n := range 17 {
		for _, gen := range []uint64{0, 1, uint64(n), 1<<32 + 5, math.MaxUint64} {
			for _, c := range change(anyChange(r, n, 20, gen), gen) {
				goes(t, c, 38)
			}
		}
	}
}

// TestWritesAnyway: shares of one stripe, of more generations, of any modes and places are written as they are told.
func TestWritesAnyway(t *testing.T) {
	r := rand.New(rand.NewSource(2))
	l := []sector.Share{anyShare(r, 3, 9), anyShare(r, 0, 8), anyShare(r, 3, 7), anyShare(r, 3, 9), {Mode: 1, Place: 255, Stripe: 4, Row: make([]byte, 480)}, {Place: 1}}
	goes(t, stage(l), 23)
	goes(t, apply(l), 23)
	goes(t, stage(nil), 23)
	goes(t, apply(nil), 23)
}

// TestEachHome: of the least and of the greatest volume, the first home and the last.
func TestEachHome(t *testing.T) {
	r := rand.New(rand.NewSource(3))
	for _, blocks := range []int{1, 2, 255, 256, 257, 1023, 1024} {
		for _, stripe := range []int{0, blocks / 2, blocks - 1} {
			s := anyShare(r, stripe, 5)
			for _, c := range []call{stage([]sector.Share{s}), apply([]sector.Share{s}), putHome(s)} {
				m := made(t, Sectors(blocks), nil)
				ok(t, c.run(m), m.Flush())
				has(t, c.name, m, laidOver(sectorsOf(made(t, Sectors(blocks), nil)), c.writes), nil)
			}
			s.Stripe = uint32(blocks)
			for _, c := range []call{stage([]sector.Share{s}), apply([]sector.Share{s}), putHome(s)} {
				refused(t, c.name+" of no home", c.run(made(t, Sectors(blocks), nil)), api.ErrRange)
			}
		}
	}
}

// TestOverOld: what stands there already, written or lost, is written anew; the slots that a change doesn't need stay.
func TestOverOld(t *testing.T) {
	r := rand.New(rand.NewSource(4))
	l := anyChange(r, 3, 5, 6)
	for _, c := range append(change(l, 6), putHome(l[0]), putSuper(t, aSuper())) {
		m := littered(t, 23, nil)
		for i := range 23 {
			ok(t, m.Lose(i))
		}
		ok(t, c.run(m))
		ok(t, m.Flush())
		has(t, c.name+" over what is lost", m, laidOver(make([][]byte, 23), c.writes), nil)
		ok(t, c.run(m))
		ok(t, m.Flush())
		has(t, c.name+" again", m, laidOver(make([][]byte, 23), c.writes), nil)
	}
}

// TestFlushesAll: what was in the cache ahead of it, is flushed too.
func TestFlushesAll(t *testing.T) {
	r := rand.New(rand.NewSource(5))
	for _, c := range change(anyChange(r, 2, 4, 6), 6) {
		m := littered(t, 23, nil)
		ok(t, m.Write(22, full(99)), c.run(m))
		has(t, c.name, m, laidOver(sectorsOf(littered(t, 23, nil)), append([]write{{22, full(99)}}, c.writes...)), nil)
	}
}

// untouched: what is refused changes nothing, and takes no power.
func untouched(t *testing.T, what string, run func(m *medium.Medium) api.Errno, want api.Errno) {
	t.Helper()
	p := medium.NewPower(100)
	m := littered(t, 23, p)
	ok(t, m.Write(20, full(98)), m.Write(2, full(99)))
	refused(t, what, run(m), want)
	has(t, what, m, sectorsOf(littered(t, 23, nil)), []write{{20, full(98)}, {2, full(99)}})
	if p.Used() != 2 {
		t.Errorf("%s takes power", what)
	}
}

func TestTooMany(t *testing.T) {
	r := rand.New(rand.NewSource(6))
	for _, n := range []int{17, 18, 33, 256, 272} {
		l := []sector.Share{}
		for i := range n {
			l = append(l, anyShare(r, i%5, 7))
		}
		untouched(t, "Stage of too many", stage(l).run, api.ErrLong)
		untouched(t, "Apply of too many", apply(l).run, api.ErrLong)
		// That there are too many is told ahead of one that can't be.
		for what, bad := range badShares() {
			for _, i := range []int{0, 16, n - 1} {
				other := slices.Clone(l)
				other[i] = bad
				untouched(t, "Stage of too many with "+what, func(m *medium.Medium) api.Errno { return Stage(m, other) }, api.ErrLong)
				untouched(t, "Apply of too many with "+what, func(m *medium.Medium) api.Errno { return Apply(m, other) }, api.ErrLong)
			}
		}
	}
}

func TestBadShares(t *testing.T) {
	r := rand.New(rand.NewSource(7))
	for what, bad := range badShares() {
		for n := 1; n <= 16; n++ {
			for i := range n {
				l := []sector.Share{}
				for j := range n {
					l = append(l, anyShare(r, j%5, 7))
				}
				l[i] = bad
				untouched(t, "Stage with "+what, func(m *medium.Medium) api.Errno { return Stage(m, l) }, api.ErrRange)
				untouched(t, "Apply with "+what, func(m *medium.Medium) api.Errno { return Apply(m, l) }, api.ErrRange)
			}
		}
		untouched(t, "PutHome with "+what, func(m *medium.Medium) api.Errno { return PutHome(m, bad) }, api.ErrRange)
	}
}

func TestCounts(t *testing.T) {
	for count := range 17 {
		goes(t, mark(7, count), 23)
	}
	for _, count := range []int{17, 18, 255, 256, 257, 272, 1 << 32, math.MaxInt} {
		untouched(t, "Mark of more than slots", func(m *medium.Medium) api.Errno { return Mark(m, 7, count) }, api.ErrLong)
	}
	for _, count := range []int{-1, -2, -240, -255, -256, -1 << 32, math.MinInt} {
		untouched(t, "Mark of fewer than none", func(m *medium.Medium) api.Errno { return Mark(m, 7, count) }, api.ErrRange)
	}
}

// TestDead: the medium's error comes first, ahead of what is wrong with the shares and counts.
func TestDead(t *testing.T) {
	r := rand.New(rand.NewSource(8))
	for _, d := range dead(t) {
		before := d.m.Snapshot()
		for _, l := range [][]sector.Share{nil, anyChange(r, 3, 5, 7), {badShares()["mode 2"]}, {badShares()["stripe 5"]}, make([]sector.Share, 17)} {
			refused(t, "Stage, "+d.name, Stage(d.m, l), d.err)
			refused(t, "Apply, "+d.name, Apply(d.m, l), d.err)
		}
		for _, count := range []int{0, 16, 17, -1, math.MaxInt, math.MinInt} {
			refused(t, "Mark, "+d.name, Mark(d.m, 7, count), d.err)
		}
		refused(t, "Clear, "+d.name, Clear(d.m, 7), d.err)
		if !bytes.Equal(d.m.Snapshot(), before) {
			t.Errorf("%s: something is changed", d.name)
		}
	}
}

// TestSmall: media that have less than a member's sectors.
func TestSmall(t *testing.T) {
	s := sector.Share{Place: 1, Gen: 7}
	for n := 1; n <= 18; n++ {
		before := sectorsOf(littered(t, n, nil))
		for _, l := range [][]sector.Share{{s}, {s, s}} {
			m := littered(t, n, nil)
			refused(t, "Stage", Stage(m, l), api.ErrRange)
			refused(t, "Apply", Apply(m, l), api.ErrRange)
			refused(t, "PutHome", PutHome(m, s), api.ErrRange)
			has(t, "a small one", m, before, nil)
			refused(t, "Stage of none", Stage(m, nil), api.OK)
			refused(t, "Apply of none", Apply(m, nil), api.OK)
			noHome(t, "a small one", m, 0, api.ErrRange)
		}
		want := api.OK
		if n < 2 {
			want = api.ErrRange
		}
		refused(t, "Mark", Mark(littered(t, n, nil), 7, 1), want)
		// Clear goes as far as there are slots.
		m := littered(t, n, nil)
		c := clears(7)
		if n < 18 {
			refused(t, "Clear", c.run(m), api.ErrRange)
			has(t, "Clear of a small one", m, before, c.writes[:max(0, n-2)])
		} else {
			goes(t, c, n)
		}
	}
}

// P15.2

// TestLook: what stands behind each step of a change.
func TestLook(t *testing.T) {
	r := rand.New(rand.NewSource(9))
	for n := range 17 {
		for _, gen := range []uint64{0, 1, 1<<32 + 3, math.MaxUint64} {
			m := made(t, 38, nil)
			l := anyChange(r, n, 20, gen)
			stands(t, m, sector.Commit{})
			ok(t, Stage(m, l))
			stands(t, m, sector.Commit{}, l...)
			ok(t, Mark(m, gen, n))
			stands(t, m, sector.Commit{State: 1, Count: byte(n), Gen: gen}, l...)
			ok(t, Apply(m, l))
			stands(t, m, sector.Commit{State: 1, Count: byte(n), Gen: gen}, l...)
			ok(t, Clear(m, gen))
			stands(t, m, sector.Commit{State: 2, Gen: gen})
			for _, s := range l {
				isHome(t, m, int(s.Stripe), s)
			}
		}
	}
}

// TestLookCommit: each state, number and generation there is.
func TestLookCommit(t *testing.T) {
	m := littered(t, 23, nil)
	for state := range byte(3) {
		for count := range byte(17) {
			for _, gen := range []uint64{0, 1, 1 << 32, math.MaxUint64} {
				lay(t, m, 1, commitBytes(state, count, gen))
				stands(t, m, sector.Commit{State: state, Count: count, Gen: gen})
			}
		}
	}
}

// TestLookCached: what isn't flushed stands, too.
func TestLookCached(t *testing.T) {
	r := rand.New(rand.NewSource(10))
	m := made(t, 23, nil)
	l := anyChange(r, 2, 5, 7)
	ok(t, m.Write(2, shareBytes(l[0])), m.Write(3, shareBytes(l[1])), m.Write(1, commitBytes(1, 2, 7)))
	stands(t, m, sector.Commit{State: 1, Count: 2, Gen: 7}, l...)
	m.Crash(nil)
	stands(t, m, sector.Commit{})
}

// notShares: sectors that are no share's.
func notShares(t *testing.T, s sector.Share) map[string][]byte {
	t.Helper()
	short, long, tail := shareBytes(s), shareBytes(s), shareBytes(s)
	short[2] = 2
	long[16], long[17] = 1, 225
	tail[511]++
	return map[string][]byte{
		"noughts": full(0), "ones": full(1), "a commit": commitBytes(1, 1, s.Gen), "a super": superBytes(t, aSuper()),
		"mode 2": short, "481 bytes": long, "something behind": tail, "only the letters": padded([]byte("LS")),
	}
}

// TestLookEnds: the slots end where one is no share, can't be read, or is of another generation.
func TestLookEnds(t *testing.T) {
	r := rand.New(rand.NewSource(11))
	for _, n := range []int{1, 2, 5, 16} {
		for i := range n {
			l := anyChange(r, n, 16, 7)
			l[i].Row = []byte("some")
			m := made(t, 38, nil)
			ok(t, Stage(m, l), Mark(m, 7, n))
			for _, b := range notShares(t, l[i]) {
				lay(t, m, 2+i, b)
				stands(t, m, sector.Commit{State: 1, Count: byte(n), Gen: 7}, l[:i]...)
			}
			ok(t, m.Lose(2+i))
			stands(t, m, sector.Commit{State: 1, Count: byte(n), Gen: 7}, l[:i]...)
			for _, gen := range []uint64{6, 8, 0, 1<<32 + 7, 7 << 56} {
				other := l[i]
				other.Gen = gen
				lay(t, m, 2+i, shareBytes(other))
				if i == 0 {
					stands(t, m, sector.Commit{State: 1, Count: byte(n), Gen: 7}, other)
				} else {
					stands(t, m, sector.Commit{State: 1, Count: byte(n), Gen: 7}, l[:i]...)
				}
			}
			lay(t, m, 2+i, shareBytes(l[i]))
			stands(t, m, sector.Commit{State: 1, Count: byte(n), Gen: 7}, l...)
		}
	}
}

// TestLookNoMore: what stands behind the slots is none of them, and shares without bytes, of one stripe or without a home are shares, too.
func TestLookNoMore(t *testing.T) {
	r := rand.New(rand.NewSource(12))
	m := made(t, 38, nil)
	l := anyChange(r, 16, 20, 7)
	l[3].Row, l[4].Stripe, l[5].Stripe = nil, l[6].Stripe, 1<<32-1
	for i, s := range l {
		lay(t, m, 2+i, shareBytes(s))
	}
	lay(t, m, 18, shareBytes(anyShare(r, 0, 7)))
	stands(t, m, sector.Commit{}, l...)
}

func TestLookSmall(t *testing.T) {
	r := rand.New(rand.NewSource(13))
	for n := 2; n <= 18; n++ {
		m := made(t, n, nil)
		l := anyChange(r, n-2, 20, 7)
		for i, s := range l {
			lay(t, m, 2+i, shareBytes(s))
		}
		stands(t, m, sector.Commit{}, l...)
	}
	noStand(t, "a medium of one sector", made(t, 1, nil), api.ErrRange)
}

func TestLookErrors(t *testing.T) {
	for _, d := range dead(t) {
		noStand(t, d.name, d.m, d.err)
	}
	r := rand.New(rand.NewSource(14))
	m := made(t, 23, nil)
	ok(t, Stage(m, anyChange(r, 2, 5, 7)), Mark(m, 7, 2))
	good := commitBytes(1, 2, 7)
	for i := range good {
		for range 4 {
			bad := bytes.Clone(good)
			bad[i] += byte(1 + r.Intn(255))
			lay(t, m, 1, bad)
			switch {
			case i == 2 && bad[i] < 3 || i == 3 && bad[i] < 17 || i > 3 && i < 12:
				if s, err := Look(m); err != api.OK || len(s.Slots) != 2 {
					t.Fatal("another commit sector", s, err)
				}
			default:
				noStand(t, "no commit sector", m, api.ErrForm)
			}
		}
	}
	for what, b := range map[string][]byte{"a super": superBytes(t, aSuper()), "a share": shareBytes(sector.Share{Place: 1}), "ones": full(1), "letters": padded([]byte("LC" + "\x03"))} {
		lay(t, m, 1, b)
		noStand(t, what, m, api.ErrForm)
	}
	ok(t, m.Lose(1))
	noStand(t, "lost", m, api.ErrLost)
	ok(t, m.Write(1, good))
	if s, err := Look(m); err != api.OK || len(s.Slots) != 2 {
		t.Error("a write over a lost one", s, err)
	}
}

func TestHome(t *testing.T) {
	r := rand.New(rand.NewSource(15))
	for _, blocks := range []int{1, 5, 1024} {
		for _, stripe := range []int{0, blocks / 2, blocks - 1} {
			m := made(t, Sectors(blocks), nil)
			noHome(t, "noughts", m, stripe, api.ErrNone)
			s := anyShare(r, stripe, r.Uint64())
			ok(t, PutHome(m, s))
			isHome(t, m, stripe, s)
			// A home tells what it says, be it another stripe.
			s.Stripe = r.Uint32()
			lay(t, m, 18+stripe, shareBytes(s))
			isHome(t, m, stripe, s)
			s.Row = []byte("some")
			for what, b := range notShares(t, s) {
				lay(t, m, 18+stripe, b)
				if what == "noughts" {
					noHome(t, what, m, stripe, api.ErrNone)
				} else {
					noHome(t, what, m, stripe, api.ErrForm)
				}
			}
			ok(t, m.Lose(18+stripe))
			noHome(t, "lost", m, stripe, api.ErrLost)
		}
	}
}

// noStripes: that no medium of so many homes has.
func noStripes(homes int) []int {
	return []int{-1, -2, -16, -17, -18, -19, math.MinInt, homes, homes + 1, 1 << 31, 1 << 32, math.MaxInt - 18, math.MaxInt - 17, math.MaxInt}
}

func TestHomeErrors(t *testing.T) {
	r := rand.New(rand.NewSource(16))
	m := made(t, 23, nil)
	ok(t, Stage(m, anyChange(r, 5, 5, 7)), Mark(m, 7, 5), PutSuper(m, aSuper()))
	for _, stripe := range noStripes(5) {
		noHome(t, "no such home", m, stripe, api.ErrRange)
	}
	for _, d := range dead(t) {
		noHome(t, d.name, d.m, 0, d.err)
		noHome(t, d.name, d.m, 4, d.err)
		noHome(t, d.name, d.m, -1, api.ErrRange)
		noHome(t, d.name, d.m, math.MinInt, api.ErrRange)
		for _, stripe := range noStripes(5) {
			if d.m != nil {
				noHome(t, d.name, d.m, stripe, api.ErrRange)
			}
		}
	}
}

// TestPut: a write, without a flush.
func TestPut(t *testing.T) {
	r := rand.New(rand.NewSource(17))
	for range 50 {
		goes(t, putHome(anyShare(r, r.Intn(5), r.Uint64())), 23)
		s := aSuper()
		s.Boot, s.Epoch = r.Uint32(), r.Uint32()
		goes(t, putSuper(t, s), 1+r.Intn(30))
	}
	for _, d := range dead(t) {
		refused(t, "PutHome, "+d.name, PutHome(d.m, anyShare(r, 4, 7)), d.err)
		refused(t, "PutSuper, "+d.name, PutSuper(d.m, aSuper()), d.err)
		// One that can't be is told ahead of the medium's error, as Home tells it.
		refused(t, "PutHome of mode 2, "+d.name, PutHome(d.m, badShares()["mode 2"]), api.ErrRange)
		refused(t, "PutSuper of nothing, "+d.name, PutSuper(d.m, sector.Super{}), api.ErrRange)
		if d.m != nil {
			refused(t, "PutHome of no home, "+d.name, PutHome(d.m, badShares()["stripe 5"]), api.ErrRange)
		}
	}
	for _, change := range []func(s *sector.Super){
		func(s *sector.Super) { s.Place = 0 },
		func(s *sector.Super) { s.N = 0 },
		func(s *sector.Super) { s.T = 11 },
		func(s *sector.Super) { s.C = 128 },
		func(s *sector.Super) { s.Blocks = 1025 },
		func(s *sector.Super) { s.In[0] = true },
		func(s *sector.Super) { s.Resync = 22 },
	} {
		s := aSuper()
		change(&s)
		untouched(t, "PutSuper of one that can't be", func(m *medium.Medium) api.Errno { return PutSuper(m, s) }, api.ErrRange)
	}
}

func TestSuper(t *testing.T) {
	m := made(t, 23, nil)
	noSuper(t, "noughts", m, api.ErrNone)
	ok(t, PutSuper(m, aSuper()))
	if s, err := Super(m); err != api.OK || s != aSuper() {
		t.Error(s, err)
	}
	m.Crash(nil)
	noSuper(t, "behind a crash", m, api.ErrNone)
	bad := superBytes(t, aSuper())
	bad[79]++
	for what, b := range map[string][]byte{"a commit": commitBytes(1, 1, 1), "a share": shareBytes(sector.Share{Place: 1}), "ones": full(1), "another sum": bad} {
		lay(t, m, 0, b)
		noSuper(t, what, m, api.ErrForm)
	}
	ok(t, m.Lose(0))
	noSuper(t, "lost", m, api.ErrLost)
	ok(t, PutSuper(m, aSuper()))
	if s, err := Super(m); err != api.OK || s != aSuper() {
		t.Error(s, err)
	}
	for _, d := range dead(t) {
		noSuper(t, d.name, d.m, d.err)
	}
}

func TestSettled(t *testing.T) {
	gens := []uint64{0, 1, 7, 1<<32 + 7, math.MaxUint64}
	for state := range 256 {
		for _, have := range gens {
			for _, ask := range gens {
				for _, count := range []byte{0, 1, 255} {
					s := Stand{Commit: sector.Commit{State: byte(state), Count: count, Gen: have}, Slots: []sector.Share{{Gen: ask}}}
					if got := s.Settled(ask); got != ((state == 1 || state == 2) && have == ask) {
						t.Fatalf("state %d of %d settles %d: %v", state, have, ask, got)
					}
				}
			}
		}
	}
}

func TestHolds(t *testing.T) {
	gens := []uint64{0, 1, 7, 1<<32 + 7, math.MaxUint64}
	for _, ask := range gens {
		if (Stand{Commit: sector.Commit{State: 1, Count: 1, Gen: ask}}).Holds(ask) {
			t.Errorf("no slots hold %d", ask)
		}
		for _, have := range gens {
			for n := 1; n <= 16; n++ {
				s := Stand{Commit: sector.Commit{State: 1, Gen: ask}, Slots: slices.Repeat([]sector.Share{{Gen: have}}, n)}
				if s.Holds(ask) != (have == ask) {
					t.Errorf("%d slots of %d hold %d: %v", n, have, ask, have != ask)
				}
			}
		}
	}
}

// P15.3

// keeps: which of so many writes stay: all choices there are, or none, all, and some others.
func keeps(r *rand.Rand, n int) [][]bool {
	out := [][]bool{}
	if n > 7 {
		out = append(out, make([]bool, n), slices.Repeat([]bool{true}, n))
	}
	for bits := range 1 << min(n, 7) {
		keep := make([]bool, n)
		for i := range keep {
			keep[i] = n <= 7 && bits>>i&1 == 1 || n > 7 && r.Intn(2) == 1
		}
		out = append(out, keep)
	}
	return out
}

// told is what a member is to have: a change's shares, on what was there.
type told struct {
	l       []sector.Share
	gen     uint64
	before  [][]byte
	behind  [][]byte
	allowed []map[string]int
}

// telling: what each sector may be on the way.
func telling(l []sector.Share, gen uint64, before [][]byte) told {
	x := told{l: l, gen: gen, before: before, behind: before}
	for _, b := range before {
		x.allowed = append(x.allowed, map[string]int{string(b): 1})
	}
	for _, c := range change(l, gen) {
		x.behind = laidOver(x.behind, c.writes)
		for _, w := range c.writes {
			x.allowed[w.at][string(w.data)] = 1
		}
	}
	return x
}

// holds: behind a crash the homes are as ahead, unless it was marked; then they are made as behind by what the slots hold.
func (x told) holds(t *testing.T, m *medium.Medium) {
	t.Helper()
	now := sectorsOf(m)
	for i, b := range now {
		if x.allowed[i][string(b)] == 0 {
			t.Fatalf("sector %d is something else", i)
		}
	}
	s, err := Look(m)
	ok(t, err)
	if !s.Settled(x.gen) {
		if !slices.EqualFunc(now[18:], x.before[18:], bytes.Equal) {
			t.Fatal("a home is another one, and it wasn't marked")
		}
		return
	}
	if s.Commit.State == 1 && s.Commit.Count != byte(len(x.l)) {
		t.Fatalf("it is marked of %d", s.Commit.Count)
	}
	ok(t, Apply(m, s.Slots))
	if !slices.EqualFunc(sectorsOf(m)[18:], x.behind[18:], bytes.Equal) {
		t.Fatal("a home isn't as behind the change")
	}
	ok(t, Clear(m, x.gen))
	has(t, "cleared", m, x.behind, nil)
}

// run: the whole change, up to the first error.
func (x told) run(m *medium.Medium) api.Errno {
	for _, c := range change(x.l, x.gen) {
		if err := c.run(m); err != api.OK {
			return err
		}
	}
	return api.OK
}

// TestCrashes: the power ends at each write and flush of a change, and any choice of the cache stays.
func TestCrashes(t *testing.T) {
	r := rand.New(rand.NewSource(18))
	for _, n := range []int{0, 1, 2, 3, 5, 16} {
		first := made(t, 38, nil)
		old := telling(anyChange(r, 16, 20, 6), 6, sectorsOf(first))
		ok(t, PutSuper(first, aSuper()), old.run(first))
		x := telling(anyChange(r, n, 20, 7), 7, sectorsOf(first))
		need := 2*n + 2 + 2 + 18
		for left := 0; left <= need; left++ {
			p := medium.NewPower(left)
			m := first.Copy(p)
			want := api.ErrDown
			if left == need {
				want = api.OK
			}
			refused(t, "the change", x.run(m), want)
			p.Set(-1)
			for _, keep := range keeps(r, len(m.Cached())) {
				other := m.Copy(nil)
				other.Crash(keep)
				x.holds(t, other)
			}
			if left == need {
				has(t, "the change", m, x.behind, nil)
			}
		}
	}
}

// TestStepsFlushed: what a step did is there behind any crash; on the way each step ahead of it is there.
func TestStepsFlushed(t *testing.T) {
	r := rand.New(rand.NewSource(19))
	m := littered(t, 38, nil)
	want := sectorsOf(m)
	for _, c := range change(anyChange(r, 7, 20, 7), 7) {
		ok(t, c.run(m))
		m.Crash(nil)
		want = laidOver(want, c.writes)
		has(t, c.name+" behind a crash", m, want, nil)
	}
}

// TestHomesAhead: neither staging nor marking touches a home.
func TestHomesAhead(t *testing.T) {
	r := rand.New(rand.NewSource(20))
	m := made(t, 38, nil)
	old := anyChange(r, 16, 20, 6)
	ok(t, Apply(m, old))
	l := slices.Clone(old)
	for i := range l {
		l[i] = anyShare(r, int(old[i].Stripe), 7)
	}
	ok(t, Stage(m, l), Mark(m, 7, 16))
	for _, s := range old {
		isHome(t, m, int(s.Stripe), s)
	}
	s, err := Look(m)
	ok(t, err, Apply(m, s.Slots))
	for _, s := range l {
		isHome(t, m, int(s.Stripe), s)
	}
}

// Memory

// TestGivenStays: what is handed in isn't changed, its spare room neither, nor kept.
func TestGivenStays(t *testing.T) {
	r := rand.New(rand.NewSource(21))
	for _, run := range []func(m *medium.Medium, l []sector.Share) api.Errno{Stage, Apply, func(m *medium.Medium, l []sector.Share) api.Errno { return PutHome(m, l[0]) }} {
		room := anyChange(r, 8, 20, 7)
		for i := range room {
			row := append(full(7), make([]byte, 88)...)
			room[i].Row = row[:copy(row, room[i].Row)]
		}
		copies := []sector.Share{}
		for _, s := range room {
			s.Row = bytes.Clone(s.Row[:600])
			copies = append(copies, s)
		}
		m := made(t, 38, nil)
		ok(t, run(m, room[:5]))
		for i, s := range room {
			s.Row = s.Row[:600]
			if !sameShare(s, copies[i]) {
				t.Fatal("what is handed in is changed")
			}
		}
		before := m.Snapshot()
		for i := range room {
			clear(room[i].Row)
			room[i].Gen = 99
		}
		if !bytes.Equal(m.Snapshot(), before) {
			t.Fatal("what is handed in is kept")
		}
	}
}

// TestAnswersNew: of an answer that is changed no other one, and no medium, tells.
func TestAnswersNew(t *testing.T) {
	r := rand.New(rand.NewSource(22))
	m := made(t, 38, nil)
	l := anyChange(r, 4, 20, 7)
	for i := range l {
		l[i].Row = []byte("some bytes")
	}
	ok(t, Stage(m, l), Apply(m, l))
	before := m.Snapshot()
	s, err := Look(m)
	h, herr := Home(m, int(l[0].Stripe))
	ok(t, err, herr)
	for i := range s.Slots {
		clear(s.Slots[i].Row)
		s.Slots[i].Row = append(s.Slots[i].Row, full(1)...)
		s.Slots[i].Gen = 99
	}
	clear(h.Row)
	h.Row = append(h.Row, full(1)...)
	if !bytes.Equal(m.Snapshot(), before) {
		t.Fatal("an answer is the medium's")
	}
	stands(t, m, sector.Commit{}, l...)
	isHome(t, m, int(l[0].Stripe), l[0])
	s, err = Look(m)
	ok(t, err)
	for i := range s.Slots {
		clear(s.Slots[i].Row)
		_ = append(s.Slots[i].Row, full(1)...)
		for _, x := range s.Slots[i+1:] {
			if string(x.Row) != "some bytes" {
				t.Fatal("two rows of an answer share memory")
			}
		}
	}
}

// TestReadsTakeNothing: looking changes nothing, and takes no power.
func TestReadsTakeNothing(t *testing.T) {
	r := rand.New(rand.NewSource(23))
	p := medium.NewPower(20)
	m := made(t, 23, p)
	ok(t, Stage(m, anyChange(r, 3, 5, 7)), PutSuper(m, aSuper()), PutHome(m, anyShare(r, 1, 7)))
	before, used := m.Snapshot(), p.Used()
	for range 30 {
		_, _ = Look(m)
		_, _ = Home(m, 1)
		_, _ = Home(m, 9)
		_, _ = Super(m)
	}
	if !bytes.Equal(m.Snapshot(), before) || p.Used() != used {
		t.Error("looking changes something")
	}
}

// Examples

// TestExample: chapter 15's own.
func TestExample(t *testing.T) {
	m := made(t, Sectors(4), nil)
	l := []sector.Share{{Place: 1, Stripe: 2, Gen: 9, Row: []byte("x")}}
	ok(t, Stage(m, l))
	stands(t, m, sector.Commit{}, l...)
	ok(t, Mark(m, 9, 1))
	stands(t, m, sector.Commit{State: 1, Count: 1, Gen: 9}, l...)
	ok(t, Apply(m, l), Clear(m, 9))
	stands(t, m, sector.Commit{State: 2, Gen: 9})
	isHome(t, m, 2, l[0])
}
