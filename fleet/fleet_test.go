package fleet

import (
	"bytes"
	"math"
	"math/rand"
	"runtime"
	"slices"
	"testing"

	"largesse/api"
	"largesse/journal"
	"largesse/medium"
	"largesse/sector"
	"largesse/stripe"
)

// ok: nothing was refused.
func ok(t *testing.T, errs ...api.Errno) {
	t.Helper()
	for i, err := range errs {
		if err != api.OK {
			t.Fatalf("call %d is refused: %d", i, err)
		}
	}
}

// refused: by that error.
func refused(t *testing.T, what string, got, want api.Errno) {
	t.Helper()
	if got != want {
		t.Errorf("%s: %d, not %d", what, got, want)
	}
}

// full: a sector of this byte.
func full(x byte) []byte {
	return bytes.Repeat([]byte{x}, 512)
}

// upTo: the places from 1 on.
func upTo(n int) []int {
	var out []int
	for i := 1; i <= n; i++ {
		out = append(out, i)
	}
	return out
}

// these: who is in, if it is those.
func these(places ...int) [256]bool {
	var out [256]bool
	for _, p := range places {
		out[p] = true
	}
	return out
}

// in: who is in, as places.
func in(who [256]bool) []int {
	var out []int
	for p, is := range who {
		if is {
			out = append(out, p)
		}
	}
	return out
}

// both: the places that are in both lists.
func both(a, b []int) []int {
	var out []int
	for _, p := range a {
		if slices.Contains(b, p) {
			out = append(out, p)
		}
	}
	return out
}

// without: the places but those.
func without(a []int, gone ...int) []int {
	var out []int
	for _, p := range a {
		if !slices.Contains(gone, p) {
			out = append(out, p)
		}
	}
	return out
}

// blanks: media of noughts.
func blanks(t *testing.T, n, sectors int, p *medium.Power) []*medium.Medium {
	t.Helper()
	var out []*medium.Medium
	for range n {
		m, err := medium.New(sectors, p)
		ok(t, err)
		out = append(out, m)
	}
	return out
}

// littered: media with bytes on them, with writes in the cache, and with a sector lost.
func littered(t *testing.T, n, sectors int, p *medium.Power) []*medium.Medium {
	t.Helper()
	out := blanks(t, n, sectors, nil)
	for k, m := range out {
		for i := range sectors {
			ok(t, m.Corrupt(i, full(byte(k+i+1))))
		}
		ok(t, m.Lose((k+3)%sectors), m.Write((k+5)%sectors, full(200)), m.Write(0, full(201)))
	}
	return copied(out, p)
}

// copied: media apart, on another power.
func copied(l []*medium.Medium, p *medium.Power) []*medium.Medium {
	var out []*medium.Medium
	for _, m := range l {
		out = append(out, m.Copy(p))
	}
	return out
}

// shown: all that is on media.
func shown(l []*medium.Medium) [][]byte {
	var out [][]byte
	for _, m := range l {
		out = append(out, m.Snapshot())
	}
	return out
}

// alike: do media have the same on them?
func alike(t *testing.T, what string, got, want []*medium.Medium) {
	t.Helper()
	for i := range want {
		if !bytes.Equal(got[i].Snapshot(), want[i].Snapshot()) {
			t.Fatalf("%s: the member %d has something else on it", what, i+1)
		}
	}
}

var name = []byte("largesse")

// aShape: by Shamir.
func aShape(t, n int) stripe.Shape { return stripe.Shape{T: t, N: n} }

// firstTable: the one that Create puts.
func firstTable(s stripe.Shape, blocks int) sector.Super {
	return sector.Super{Name: [8]byte(name), N: byte(s.N), T: byte(s.T), Mode: byte(s.Mode), C: byte(s.C),
		Blocks: uint32(blocks), Boot: 1, Epoch: 1, In: these(upTo(s.N)...)}
}

// created: a fleet on media of noughts.
func created(t *testing.T, s stripe.Shape, blocks int, p *medium.Power) (*Fleet, []*medium.Medium) {
	t.Helper()
	l := blanks(t, s.N, 18+blocks, p)
	f, err := Create(s, name, blocks, l)
	ok(t, err)
	return f, l
}

// opened: what Open answers, that isn't refused.
func opened(t *testing.T, l []*medium.Medium) *Fleet {
	t.Helper()
	f, err := Open(l)
	ok(t, err)
	return f
}

// notOpened: by which error, with nothing written.
func notOpened(t *testing.T, what string, l []*medium.Medium, want api.Errno) {
	t.Helper()
	before := shown(l)
	if f, err := Open(l); f != nil || err != want {
		t.Fatalf("Open, %s: %v, %d, not %d", what, f != nil, err, want)
	}
	if !slices.EqualFunc(shown(l), before, bytes.Equal) {
		t.Fatalf("Open, %s: something is written", what)
	}
}

// placeless: a table, whatever its place is: it is put with each member's own.
func placeless(s sector.Super) sector.Super {
	s.Place = 0
	return s
}

// isSo: all that a fleet tells of itself.
func isSo(t *testing.T, what string, f *Fleet, table sector.Super, live []int, l []*medium.Medium) {
	t.Helper()
	if placeless(f.Table()) != placeless(table) {
		t.Fatalf("%s: the table is %v, not %v", what, f.Table(), table)
	}
	if !slices.Equal(f.Live(), live) {
		t.Fatalf("%s: live are %v, not %v", what, f.Live(), live)
	}
	shape := stripe.Shape{Mode: int(table.Mode), T: int(table.T), N: int(table.N), C: int(table.C)}
	if f.Shape() != shape {
		t.Fatalf("%s: the shape is %v, not %v", what, f.Shape(), shape)
	}
	for i, m := range l {
		if f.Member(i+1) != m {
			t.Fatalf("%s: another member is at %d", what, i+1)
		}
	}
}

// told: a table, as the member at a place has it.
func told(t *testing.T, s sector.Super, place int) []byte {
	t.Helper()
	s.Place = byte(place)
	b, err := s.Bytes()
	ok(t, err)
	return b
}

// op is a write, or a flush (no data), of the member at a place.
type op struct {
	place, at int
	data      []byte
}

// do: it, on those media.
func (o op) do(t *testing.T, l []*medium.Medium) {
	t.Helper()
	if o.data == nil {
		ok(t, l[o.place-1].Flush())
	} else {
		ok(t, l[o.place-1].Write(o.at, o.data))
	}
}

// writes: a table into the super sectors of those, without a flush.
func writes(t *testing.T, s sector.Super, places ...int) []op {
	t.Helper()
	var out []op
	for _, p := range places {
		out = append(out, op{p, 0, told(t, s, p)})
	}
	return out
}

// flushes: of those.
func flushes(places ...int) []op {
	var out []op
	for _, p := range places {
		out = append(out, op{place: p})
	}
	return out
}

// puts: all that is done when a table is put to those.
func puts(t *testing.T, s sector.Super, places ...int) []op {
	t.Helper()
	return slices.Concat(writes(t, s, places...), flushes(places...))
}

// erases: all that is done when so many media of so many sectors become noughts.
func erases(n, sectors int) []op {
	var out []op
	for _, p := range upTo(n) {
		for i := range sectors {
			out = append(out, op{p, i, full(0)})
		}
	}
	return append(out, flushes(upTo(n)...)...)
}

// does: a call does this, in this order, up to where the power ends; ahead of its end it answers ErrDown.
func does(t *testing.T, what string, build func(p *medium.Power) []*medium.Medium, ops []op, call func(left int, l []*medium.Medium) api.Errno) {
	t.Helper()
	for left := -1; left <= len(ops)+1; left++ {
		p := medium.NewPower(-1)
		l := build(p)
		want := copied(l, nil)
		used := p.Used()
		p.Set(left)
		err := call(left, l)
		let, wanted := len(ops), api.OK
		if 0 <= left && left < len(ops) {
			let, wanted = left, api.ErrDown
		}
		if err != wanted {
			t.Fatalf("%s, with power for %d of %d: %d, not %d", what, left, len(ops), err, wanted)
		}
		if p.Used()-used != let {
			t.Fatalf("%s, with power for %d of %d: %d were let", what, left, len(ops), p.Used()-used)
		}
		for _, o := range ops[:let] {
			o.do(t, want)
		}
		alike(t, what, l, want)
	}
}

// started is a fleet, its media and their power, and how it is.
type started struct {
	f     *Fleet
	l     []*medium.Medium
	table sector.Super
	live  []int
}

// moves: a call of a fleet does this, in this order; when it has come to its end, the fleet is as told, ahead of that as it was.
func moves(t *testing.T, what string, start func(p *medium.Power) started, ops []op, call func(f *Fleet) api.Errno, table sector.Super, live []int) {
	t.Helper()
	var now started
	build := func(p *medium.Power) []*medium.Medium {
		now = start(p)
		return now.l
	}
	does(t, what, build, ops, func(left int, _ []*medium.Medium) api.Errno {
		err := call(now.f)
		if err == api.OK {
			isSo(t, what, now.f, table, live, now.l)
		} else {
			isSo(t, what+" that isn't done", now.f, now.table, now.live, now.l)
		}
		return err
	})
}

// changesNothing: a call that is refused by that error; nothing is written, no power is taken, and the fleet is as it was.
func changesNothing(t *testing.T, what string, f *Fleet, l []*medium.Medium, p *medium.Power, call func() api.Errno, want api.Errno) {
	t.Helper()
	before, table, live, used := shown(l), f.Table(), f.Live(), p.Used()
	if err := call(); err != want {
		t.Fatalf("%s: %d, not %d", what, err, want)
	}
	isSo(t, what, f, table, live, l)
	if f.Table() != table {
		t.Fatalf("%s: the table is another one", what)
	}
	if !slices.EqualFunc(shown(l), before, bytes.Equal) || p.Used() != used {
		t.Fatalf("%s: something is written", what)
	}
}

// P18.1, Create

// TestCreate: each member has noughts, and the first table, whatever stood there.
func TestCreate(t *testing.T) {
	for _, s := range []stripe.Shape{{T: 1, N: 1}, {T: 2, N: 3}, {Mode: 1, T: 3, N: 3, C: 127}, {T: 1, N: 5, C: 2}, {Mode: 1, T: 17, N: 32}} {
		for _, blocks := range []int{1, 4, 37} {
			l := littered(t, s.N, 18+blocks, nil)
			f, err := Create(s, name, blocks, l)
			ok(t, err)
			want := blanks(t, s.N, 18+blocks, nil)
			for i, m := range want {
				ok(t, m.Corrupt(0, told(t, firstTable(s, blocks), i+1)))
			}
			alike(t, "Create", l, want)
			isSo(t, "Create", f, firstTable(s, blocks), upTo(s.N), l)
		}
	}
}

// TestCreateMost: as many members, and as many blocks, as there may be.
func TestCreateMost(t *testing.T) {
	for _, c := range []struct {
		s      stripe.Shape
		blocks int
	}{{stripe.Shape{T: 255, N: 255, C: 127}, 1}, {stripe.Shape{Mode: 1, T: 1, N: 2}, 1024}} {
		l := littered(t, c.s.N, 18+c.blocks, nil)
		f, err := Create(c.s, name, c.blocks, l)
		ok(t, err)
		isSo(t, "Create", f, firstTable(c.s, c.blocks), upTo(c.s.N), l)
		want := blanks(t, c.s.N, 18+c.blocks, nil)
		for i, m := range want {
			ok(t, m.Corrupt(0, told(t, firstTable(c.s, c.blocks), i+1)))
		}
		alike(t, "Create", l, want)
		f = opened(t, l)
		if len(f.Live()) != c.s.N || f.Table().Boot != 2 {
			t.Error(f.Live(), f.Table().Boot)
		}
	}
}

// TestCreateNames: any eight bytes.
func TestCreateNames(t *testing.T) {
	for _, n := range [][]byte{make([]byte, 8), bytes.Repeat([]byte{255}, 8), []byte("LULSLC\x00\x01")} {
		f, err := Create(aShape(2, 3), n, 4, blanks(t, 3, 22, nil))
		ok(t, err)
		want := firstTable(aShape(2, 3), 4)
		want.Name = [8]byte(n)
		if placeless(f.Table()) != want {
			t.Error(n, f.Table())
		}
	}
}

// TestCreateOrder: noughts, flushes, and then the table, wherever the power ends.
func TestCreateOrder(t *testing.T) {
	s := stripe.Shape{Mode: 1, T: 2, N: 3, C: 1}
	ops := slices.Concat(erases(3, 20), puts(t, firstTable(s, 2), 1, 2, 3))
	does(t, "Create", func(p *medium.Power) []*medium.Medium { return littered(t, 3, 20, p) }, ops, func(_ int, l []*medium.Medium) api.Errno {
		f, err := Create(s, name, 2, l)
		if (f == nil) != (err != api.OK) {
			t.Fatal("a fleet beside an error, or none", err)
		}
		return err
	})
}

// trial is what Create is given.
type trial struct {
	what   string
	s      stripe.Shape
	name   []byte
	blocks int
	l      []*medium.Medium
}

// notCreated: by which error, with nothing written.
func notCreated(t *testing.T, x trial, want api.Errno) {
	t.Helper()
	before := shown(x.l)
	if f, err := Create(x.s, x.name, x.blocks, x.l); f != nil || err != want {
		t.Fatalf("Create, %s: %v, %d, not %d", x.what, f != nil, err, want)
	}
	if !slices.EqualFunc(shown(x.l), before, bytes.Equal) {
		t.Fatalf("Create, %s: something is written", x.what)
	}
}

// badArgs: what isn't a shape, as many media, or a name, for three members of four blocks.
func badArgs(l []*medium.Medium) []trial {
	three := aShape(2, 3)
	out := []trial{
		{"no shape", stripe.Shape{}, name, 4, l},
		{"mode 2", stripe.Shape{Mode: 2, T: 2, N: 3}, name, 4, l},
		{"mode -1", stripe.Shape{Mode: -1, T: 2, N: 3}, name, 4, l},
		{"t 0", aShape(0, 3), name, 4, l},
		{"t above n", aShape(4, 3), name, 4, l},
		{"c 128", stripe.Shape{T: 2, N: 3, C: 128}, name, 4, l},
		{"c -1", stripe.Shape{T: 2, N: 3, C: -1}, name, 4, l},
		{"n 259", aShape(2, 259), name, 4, l},
		{"numbers at their ends", stripe.Shape{Mode: math.MinInt, T: math.MaxInt, N: math.MinInt, C: math.MaxInt}, name, 4, l},
		{"n 2", aShape(2, 2), name, 4, l},
		{"n 4", aShape(2, 4), name, 4, l},
		{"two media", three, name, 4, l[:2]},
		{"four media", three, name, 4, append(slices.Clone(l), l[0])},
		{"no media", three, name, 4, nil},
	}
	for _, n := range [][]byte{nil, {}, []byte("l"), []byte("largess"), []byte("largesses"), make([]byte, 16)} {
		out = append(out, trial{"a name of another length", three, n, 4, l})
	}
	return out
}

// badRanges: what isn't a number of blocks, or media of as many, for three members of four blocks.
func badRanges(t *testing.T, l []*medium.Medium) []trial {
	three := aShape(2, 3)
	var out []trial
	for _, blocks := range []int{0, -1, -18, 1025, 1 << 32, 1<<32 + 4, math.MinInt, math.MaxInt, 3, 5, 22} {
		out = append(out, trial{"other blocks", three, name, blocks, l})
	}
	for i := range 3 {
		for _, sectors := range []int{1, 4, 21, 23, 2048} {
			other := slices.Clone(l)
			other[i] = littered(t, 1, sectors, nil)[0]
			out = append(out, trial{"another medium", three, name, 4, other})
		}
		none := slices.Clone(l)
		none[i] = nil
		out = append(out, trial{"a nil medium", three, name, 4, none})
	}
	large := littered(t, 3, 18+1025, nil)
	return append(out, trial{"1025 blocks", three, name, 1025, large}, trial{"0 blocks of 18 sectors", three, name, 0, littered(t, 3, 18, nil)},
		trial{"0 blocks of nil ones", three, name, 0, make([]*medium.Medium, 3)})
}

// TestCreateErrors: each one, and of several the first one.
func TestCreateErrors(t *testing.T) {
	l := littered(t, 3, 22, nil)
	for _, x := range badArgs(l) {
		notCreated(t, x, api.ErrArg)
		x.blocks = 0
		notCreated(t, x, api.ErrArg)
	}
	for _, x := range badRanges(t, l) {
		notCreated(t, x, api.ErrRange)
	}
	for i := range 3 {
		l := littered(t, 3, 22, nil)
		l[i].Fail()
		notCreated(t, trial{"one has failed", aShape(2, 3), name, 4, l}, api.ErrDown)
		for _, x := range badArgs(l) {
			notCreated(t, x, api.ErrArg)
		}
		for _, x := range badRanges(t, l) {
			notCreated(t, x, api.ErrRange)
		}
		l[i].Back()
		_, err := Create(aShape(2, 3), name, 4, l)
		ok(t, err)
	}
	notCreated(t, trial{"no power", aShape(2, 3), name, 4, littered(t, 3, 22, medium.NewPower(0))}, api.ErrDown)
}

// P18.1, Open

// next: a table of the next boot, as it is put first, and as it is put then.
func next(s sector.Super, current []int) (sector.Super, sector.Super) {
	s.Boot, s.Epoch = s.Boot+1, 0
	closed := s
	closed.Epoch, closed.In = 1, these(current...)
	return s, closed
}

// stamped: media with a table on them, with each one's place.
func stamped(t *testing.T, l []*medium.Medium, s sector.Super) {
	t.Helper()
	for i, m := range l {
		ok(t, m.Corrupt(0, told(t, s, i+1)))
	}
}

// busyTable: one with something everywhere.
func busyTable(n, threshold, blocks int) sector.Super {
	s := firstTable(stripe.Shape{Mode: 1, T: threshold, N: n, C: 5}, blocks)
	s.Boot, s.Epoch, s.Refresh, s.Scrub, s.Target, s.Resync = 7, 9, 2, 1, 1, uint32(blocks+1)
	return s
}

// TestOpen: the boot is one more, all else is as it was, of each number of members that answer.
func TestOpen(t *testing.T) {
	for n := 1; n <= 6; n++ {
		for threshold := 1; threshold <= n; threshold++ {
			for bits := range 1 << n {
				l := blanks(t, n, 20, nil)
				table := busyTable(n, threshold, 2)
				stamped(t, l, table)
				var there []int
				for i, m := range l {
					if bits>>i&1 == 1 {
						there = append(there, i+1)
					} else {
						m.Fail()
					}
				}
				if len(there) == 0 {
					notOpened(t, "none", l, api.ErrNone)
					continue
				}
				if 2*len(there) <= n {
					notOpened(t, "half", l, api.ErrQuorum)
					continue
				}
				if len(there) < threshold {
					notOpened(t, "few", l, api.ErrDegraded)
					continue
				}
				before := shown(l)
				_, closed := next(table, there)
				isSo(t, "Open", opened(t, l), closed, there, l)
				for i, m := range l {
					m.Back()
					got, err := journal.Super(m)
					ok(t, err)
					want := table
					if slices.Contains(there, i+1) {
						want = closed
					} else if !bytes.Equal(m.Snapshot(), before[i]) {
						t.Fatal("one that doesn't answer is written")
					}
					want.Place = byte(i + 1)
					if got != want {
						t.Fatalf("the member %d has %v, not %v", i+1, got, want)
					}
				}
			}
		}
	}
}

// TestOpenOrder: the next table to all that are current, and then the closed one, wherever the power ends.
func TestOpenOrder(t *testing.T) {
	for _, current := range [][]int{{1, 2, 3, 4, 5}, {1, 3, 4}, {3, 4, 5}} {
		table := busyTable(5, 2, 2)
		if len(current) == 3 {
			table.In = these(append([]int{2}, current...)...)
		}
		first, closed := next(table, current)
		build := func(p *medium.Power) []*medium.Medium {
			l := blanks(t, 5, 20, p)
			stamped(t, l, table)
			for _, p := range without(upTo(5), current...) {
				if p == 2 {
					ok(t, l[1].Lose(0))
				}
			}
			return l
		}
		ops := slices.Concat(puts(t, first, current...), puts(t, closed, current...))
		does(t, "Open", build, ops, func(left int, l []*medium.Medium) api.Errno {
			f, err := Open(l)
			if (f == nil) != (err != api.OK) {
				t.Fatal("a fleet beside an error, or none", err)
			}
			if left == 0 && err == api.ErrNone {
				// Without power nobody answers at all.
				return api.ErrDown
			}
			if err == api.OK {
				isSo(t, "Open", f, closed, current, l)
			}
			return err
		})
	}
}

// TestOpenPower: without power nobody answers.
func TestOpenPower(t *testing.T) {
	p := medium.NewPower(-1)
	_, l := created(t, aShape(2, 3), 2, p)
	p.Set(0)
	notOpened(t, "without power", l, api.ErrNone)
	other := medium.NewPower(0)
	mixed := []*medium.Medium{l[0].Copy(nil), l[1].Copy(other), l[2].Copy(nil)}
	f := opened(t, mixed)
	_, closed := next(firstTable(aShape(2, 3), 2), []int{1, 3})
	isSo(t, "one without power", f, closed, []int{1, 3}, mixed)
}

// TestOpenWhoHasNone: who has no super at its place counts for nothing, and isn't written.
func TestOpenWhoHasNone(t *testing.T) {
	_, l := created(t, aShape(2, 5), 4, nil)
	stranger := firstTable(aShape(2, 5), 4)
	stranger.Name[0]++
	bad := told(t, firstTable(aShape(2, 5), 4), 4)
	bad[79]++
	for what, spoil := range map[string]func(m *medium.Medium) *medium.Medium{
		"nil":                       func(*medium.Medium) *medium.Medium { return nil },
		"failed":                    func(m *medium.Medium) *medium.Medium { m.Fail(); return m },
		"without power":             func(m *medium.Medium) *medium.Medium { return m.Copy(medium.NewPower(0)) },
		"lost":                      func(m *medium.Medium) *medium.Medium { ok(t, m.Lose(0)); return m },
		"noughts":                   func(m *medium.Medium) *medium.Medium { ok(t, m.Corrupt(0, full(0))); return m },
		"ones":                      func(m *medium.Medium) *medium.Medium { ok(t, m.Corrupt(0, full(1))); return m },
		"another sum":               func(m *medium.Medium) *medium.Medium { ok(t, m.Corrupt(0, bad)); return m },
		"another place":             func(m *medium.Medium) *medium.Medium { return l[0].Copy(nil) },
		"a stranger at its place":   func(m *medium.Medium) *medium.Medium { ok(t, m.Corrupt(0, told(t, stranger, 5))); return m },
		"blank, with other sectors": func(m *medium.Medium) *medium.Medium { return blanks(t, 1, 1, nil)[0] },
		"noughts in the cache":      func(m *medium.Medium) *medium.Medium { ok(t, m.Write(0, full(0))); return m },
	} {
		other := copied(l, nil)
		other[3] = spoil(other[3])
		before := other[3].Snapshot()
		f := opened(t, other)
		_, closed := next(firstTable(aShape(2, 5), 4), []int{1, 2, 3, 5})
		isSo(t, what, f, closed, []int{1, 2, 3, 5}, other)
		if !bytes.Equal(other[3].Snapshot(), before) {
			t.Errorf("%s: it is written", what)
		}
		if f.Member(4) != other[3] {
			t.Errorf("%s: it isn't at its place", what)
		}
	}
}

// TestOpenCache: what is in a cache shows, and is flushed with the table.
func TestOpenCache(t *testing.T) {
	_, l := created(t, aShape(2, 3), 4, nil)
	newer := firstTable(aShape(2, 3), 4)
	newer.Epoch, newer.Refresh = 2, 3
	ok(t, l[1].Write(0, told(t, newer, 2)), l[2].Write(19, full(9)))
	f := opened(t, l)
	_, closed := next(newer, upTo(3))
	isSo(t, "Open", f, closed, upTo(3), l)
	for i, m := range l {
		m.Crash(nil)
		if s, err := journal.Super(m); err != api.OK || placeless(s) != closed {
			t.Error(i, s, err)
		}
	}
	if b, err := l[2].Read(19); err != api.OK || !bytes.Equal(b, full(9)) {
		t.Error("what stood in the cache is gone")
	}
}

// TestOpenNotCurrent: who is out by the newest table isn't written, and isn't live.
func TestOpenNotCurrent(t *testing.T) {
	l := blanks(t, 5, 20, nil)
	table := busyTable(5, 2, 2)
	stamped(t, l, table)
	newer := table
	newer.Epoch++
	newer.In = these(1, 3, 4)
	for _, p := range []int{1, 3} {
		ok(t, l[p-1].Corrupt(0, told(t, newer, p)))
	}
	before := shown(l)
	f := opened(t, l)
	_, closed := next(newer, []int{1, 3, 4})
	isSo(t, "Open", f, closed, []int{1, 3, 4}, l)
	for _, p := range []int{2, 5} {
		if !bytes.Equal(l[p-1].Snapshot(), before[p-1]) {
			t.Error("one that isn't current is written", p)
		}
	}
}

// TestOpenGather: chapter 16's errors.
func TestOpenGather(t *testing.T) {
	notOpened(t, "no list", nil, api.ErrNone)
	notOpened(t, "nil media", make([]*medium.Medium, 3), api.ErrNone)
	notOpened(t, "blank ones", blanks(t, 3, 22, nil), api.ErrNone)
	for what, change := range map[string]func(s *sector.Super){
		"name":   func(s *sector.Super) { s.Name[7]++ },
		"n":      func(s *sector.Super) { s.N++ },
		"t":      func(s *sector.Super) { s.T++ },
		"mode":   func(s *sector.Super) { s.Mode = 1 },
		"c":      func(s *sector.Super) { s.C++ },
		"blocks": func(s *sector.Super) { s.Blocks++ },
	} {
		_, l := created(t, aShape(2, 3), 4, nil)
		other := firstTable(aShape(2, 3), 4)
		change(&other)
		ok(t, l[2].Corrupt(0, told(t, other, 3)))
		notOpened(t, "another "+what, l, api.ErrAlien)
	}
	_, l := created(t, aShape(2, 4), 4, nil)
	l[0].Fail()
	l[3].Fail()
	notOpened(t, "half of them", l, api.ErrQuorum)
	_, l = created(t, aShape(3, 4), 4, nil)
	out := firstTable(aShape(3, 4), 4)
	out.Epoch, out.In = 2, these(1, 2)
	ok(t, l[0].Corrupt(0, told(t, out, 1)))
	notOpened(t, "two of them in", l, api.ErrDegraded)
}

// TestOpenAlien: as many media as n, and sectors of current ones.
func TestOpenAlien(t *testing.T) {
	_, l := created(t, aShape(2, 3), 4, nil)
	notOpened(t, "two media", l[:2], api.ErrAlien)
	notOpened(t, "four media", append(slices.Clone(l), blanks(t, 1, 22, nil)...), api.ErrAlien)
	notOpened(t, "four media, one nil", append(slices.Clone(l), nil), api.ErrAlien)
	notOpened(t, "300 media", append(slices.Clone(l), blanks(t, 297, 22, nil)...), api.ErrAlien)
	notOpened(t, "259 media", append(slices.Clone(l), make([]*medium.Medium, 256)...), api.ErrAlien)
	notOpened(t, "supers at places behind all that can be", append(make([]*medium.Medium, 256), l...), api.ErrNone)
	for i := range 3 {
		for _, sectors := range []int{1, 21, 23, 2048} {
			other := copied(l, nil)
			other[i] = blanks(t, 1, sectors, nil)[0]
			ok(t, other[i].Corrupt(0, told(t, firstTable(aShape(2, 3), 4), i+1)))
			notOpened(t, "another medium", other, api.ErrAlien)
			if sectors == 1 {
				continue
			}
			out := firstTable(aShape(2, 3), 4)
			out.Epoch, out.In = 2, these(without(upTo(3), i+1)...)
			for _, p := range in(out.In) {
				ok(t, other[p-1].Corrupt(0, told(t, out, p)))
			}
			_, closed := next(out, in(out.In))
			isSo(t, "another medium that isn't current", opened(t, other), closed, in(out.In), other)
		}
	}
}

// TestOpenAlienLast: chapter 16's errors come first, the next boot's last.
func TestOpenAlienLast(t *testing.T) {
	_, l := created(t, aShape(2, 5), 4, nil)
	notOpened(t, "two of five", l[:2], api.ErrQuorum)
	notOpened(t, "three of five", l[:3], api.ErrAlien)
	last := busyTable(3, 3, 4)
	last.Boot = 1 << 31
	l = blanks(t, 3, 22, nil)
	stamped(t, l, last)
	notOpened(t, "the last boot", l, api.ErrRange)
	notOpened(t, "the last boot, four media", append(slices.Clone(l), nil), api.ErrAlien)
	other := append(slices.Clone(l[:2]), blanks(t, 1, 23, nil)...)
	notOpened(t, "the last boot, two of t = 3", other, api.ErrDegraded)
	ok(t, other[2].Corrupt(0, told(t, last, 3)))
	notOpened(t, "the last boot, another medium", other, api.ErrAlien)
}

// TestOpenLastBoot: up to MaxBoot, and no further; nothing is written then.
func TestOpenLastBoot(t *testing.T) {
	table := busyTable(3, 2, 4)
	table.Boot = 1<<31 - 1
	l := blanks(t, 3, 22, nil)
	stamped(t, l, table)
	_, closed := next(table, upTo(3))
	isSo(t, "MaxBoot", opened(t, l), closed, upTo(3), l)
	notOpened(t, "behind MaxBoot", l, api.ErrRange)
	table.Boot = math.MaxUint32
	stamped(t, l, table)
	notOpened(t, "the last word", l, api.ErrRange)
}

// P18.2

// TestMember: nothing where there is none.
func TestMember(t *testing.T) {
	f, l := created(t, aShape(2, 3), 4, nil)
	for i, m := range l {
		if f.Member(i+1) != m {
			t.Error(i)
		}
	}
	for _, p := range []int{0, -1, 4, 5, 255, 256, 257, 1<<32 + 1, math.MinInt, math.MaxInt} {
		if f.Member(p) != nil {
			t.Error(p)
		}
	}
}

// TestNil: of no fleet nothing is told, and nothing is done.
func TestNil(t *testing.T) {
	var f *Fleet
	if f.Shape() != (stripe.Shape{}) || f.Table() != (sector.Super{}) || len(f.Live()) != 0 || f.Member(1) != nil {
		t.Error("something is told")
	}
	called := 0
	count := func(int, *medium.Medium) api.Errno { called++; return api.OK }
	m := blanks(t, 1, 22, nil)[0]
	for _, p := range []int{math.MinInt, -1, 0, 1, 2, 256, math.MaxInt} {
		refused(t, "Admit", f.Admit(p), api.ErrArg)
		refused(t, "Replace", f.Replace(p, m), api.ErrArg)
		refused(t, "Replace", f.Replace(p, nil), api.ErrArg)
	}
	refused(t, "Each", f.Each(count), api.ErrArg)
	refused(t, "Each", f.Each(nil), api.ErrArg)
	refused(t, "Put", f.Put(sector.Super{}), api.ErrArg)
	refused(t, "Put", f.Put(firstTable(aShape(2, 3), 4)), api.ErrArg)
	refused(t, "Settle", f.Settle(), api.ErrArg)
	if called != 0 {
		t.Error("something is called")
	}
}

// TestEach: a call for each that is live, in order, up to the first error.
func TestEach(t *testing.T) {
	f, l := created(t, aShape(2, 5), 2, nil)
	l[1].Fail()
	ok(t, f.Settle())
	live := []int{1, 3, 4, 5}
	for stop := range 7 {
		for _, err := range []api.Errno{api.ErrDown, api.ErrFull, -1, 1 << 40} {
			var seen []int
			got := f.Each(func(place int, m *medium.Medium) api.Errno {
				if m != l[place-1] {
					t.Errorf("another medium for %d", place)
				}
				seen = append(seen, place)
				if place == stop {
					return err
				}
				return api.OK
			})
			i := slices.Index(live, stop)
			if i < 0 {
				refused(t, "Each", got, api.OK)
				i = 3
			} else {
				refused(t, "Each", got, err)
			}
			if !slices.Equal(seen, live[:i+1]) {
				t.Errorf("called for %v", seen)
			}
		}
	}
}

// TestEachAny: calls that aren't there, that panic, or that use the fleet.
func TestEachAny(t *testing.T) {
	p := medium.NewPower(-1)
	f, l := created(t, aShape(2, 3), 2, p)
	changesNothing(t, "no call", f, l, p, func() api.Errno { return f.Each(nil) }, api.ErrArg)
	calls := 0
	changesNothing(t, "a call that panics", f, l, p, func() api.Errno {
		return f.Each(func(place int, _ *medium.Medium) api.Errno {
			calls++
			if place == 2 {
				panic("no")
			}
			return api.OK
		})
	}, api.ErrArg)
	if calls != 2 {
		t.Error(calls)
	}
	var seen []int
	ok(t, f.Each(func(place int, _ *medium.Medium) api.Errno {
		seen = append(seen, place)
		if place == 1 {
			l[2].Fail()
			return f.Settle()
		}
		return f.Each(func(int, *medium.Medium) api.Errno { return api.OK })
	}))
	if seen[0] != 1 || seen[1] != 2 || !slices.Equal(f.Live(), []int{1, 2}) {
		t.Error(seen, f.Live())
	}
}

// TestEachExit: a call that ends its goroutine does so.
func TestEachExit(t *testing.T) {
	f, _ := created(t, aShape(1, 1), 1, nil)
	gone := make(chan int)
	went := 0
	go func() {
		defer close(gone)
		_ = f.Each(func(int, *medium.Medium) api.Errno { runtime.Goexit(); return api.OK })
		went = 1
	}()
	<-gone
	if went != 0 {
		t.Error("it went on")
	}
}

// left: a fleet of five, of which some are out by Settle.
func left(t *testing.T, p *medium.Power, out ...int) started {
	t.Helper()
	f, l := created(t, aShape(2, 5), 2, p)
	table := firstTable(aShape(2, 5), 2)
	for _, gone := range out {
		l[gone-1].Fail()
	}
	ok(t, f.Settle())
	for _, gone := range out {
		l[gone-1].Back()
	}
	live := without(upTo(5), out...)
	if len(out) > 0 {
		table.Epoch, table.In = 2, these(live...)
	}
	isSo(t, "Settle", f, table, live, l)
	return started{f, l, table, live}
}

// TestPut: to each that is live, with its place, and then flushed.
func TestPut(t *testing.T) {
	for _, out := range [][]int{nil, {2}, {1, 5}} {
		start := func(p *medium.Power) started { return left(t, p, out...) }
		x := start(nil)
		for _, change := range []func(s *sector.Super){
			func(s *sector.Super) {},
			func(s *sector.Super) { s.Refresh = 3 },
			func(s *sector.Super) { s.Scrub, s.Target, s.Resync = 1, 5, 2 },
			func(s *sector.Super) { s.Epoch += 5 },
			func(s *sector.Super) { s.Boot, s.Epoch = 0, 0 },
			func(s *sector.Super) { s.Place = 3 },
			func(s *sector.Super) { s.Place = 255 },
			func(s *sector.Super) { s.Name, s.T, s.Mode, s.C = [8]byte{}, 5, 1, 127 },
		} {
			table := x.table
			change(&table)
			moves(t, "Put", start, puts(t, table, x.live...), func(f *Fleet) api.Errno { return f.Put(table) }, table, x.live)
		}
	}
}

// TestPutTable: it is the fleet's, as it was handed in.
func TestPutTable(t *testing.T) {
	f, _ := created(t, aShape(2, 3), 2, nil)
	for _, place := range []byte{0, 1, 3, 200} {
		table := f.Table()
		table.Place, table.Refresh = place, table.Refresh+1
		if place == 200 {
			table.Refresh = 0
		}
		ok(t, f.Put(table))
		if f.Table() != table {
			t.Error(f.Table(), table)
		}
	}
}

// badTables: tables that can't be, for a fleet of five with two blocks.
func badTables() map[string]func(s *sector.Super) {
	return map[string]func(s *sector.Super){
		"nothing":          func(s *sector.Super) { *s = sector.Super{} },
		"n 0":              func(s *sector.Super) { s.N, s.In = 0, these() },
		"t 0":              func(s *sector.Super) { s.T = 0 },
		"t 6":              func(s *sector.Super) { s.T = 6 },
		"mode 2":           func(s *sector.Super) { s.Mode = 2 },
		"c 128":            func(s *sector.Super) { s.C = 128 },
		"no blocks":        func(s *sector.Super) { s.Blocks = 0 },
		"1025 blocks":      func(s *sector.Super) { s.Blocks = 1025 },
		"cursor 4":         func(s *sector.Super) { s.Refresh = 4 },
		"target 6":         func(s *sector.Super) { s.Target = 6 },
		"place 0 in":       func(s *sector.Super) { s.In[0] = true },
		"place 6 in":       func(s *sector.Super) { s.In[6] = true },
		"n 4":              func(s *sector.Super) { s.N, s.In[5] = 4, false },
		"n 2, nobody else": func(s *sector.Super) { s.N, s.In = 2, these(1, 2) },
	}
}

// TestPutErrors: a table that can't be changes nothing, also if some could be told it.
func TestPutErrors(t *testing.T) {
	for what, change := range badTables() {
		p := medium.NewPower(-1)
		f, l := created(t, aShape(2, 5), 2, p)
		table := f.Table()
		change(&table)
		changesNothing(t, what, f, l, p, func() api.Errno { return f.Put(table) }, api.ErrRange)
	}
}

// TestPutFailed: one that is live and failed ends it; those ahead of it are written, and not flushed.
func TestPutFailed(t *testing.T) {
	for failed := 1; failed <= 5; failed++ {
		x := left(t, nil)
		table := x.table
		table.Refresh = 2
		x.l[failed-1].Fail()
		want := copied(x.l, nil)
		for _, o := range writes(t, table, upTo(failed-1)...) {
			o.do(t, want)
		}
		refused(t, "Put", x.f.Put(table), api.ErrDown)
		alike(t, "Put", x.l, want)
		isSo(t, "Put", x.f, x.table, x.live, x.l)
	}
}

// TestPutLive: who is out by a table isn't live, and who is in, but didn't stand, isn't either.
func TestPutLive(t *testing.T) {
	x := left(t, nil)
	out := x.table
	out.In = these(1, 2, 4)
	ok(t, x.f.Put(out))
	isSo(t, "two are out", x.f, out, []int{1, 2, 4}, x.l)
	for i, m := range x.l {
		if s, err := journal.Super(m); err != api.OK || placeless(s) != out || int(s.Place) != i+1 {
			t.Error(i, s, err)
		}
	}
	back := out
	back.In, back.Refresh = these(1, 2, 4, 5), 1
	ok(t, x.f.Put(back))
	isSo(t, "one that stood is in", x.f, back, []int{1, 2, 4, 5}, x.l)
	if s, _ := journal.Super(x.l[4]); placeless(s) != out {
		t.Error("one that isn't live is written", s)
	}
	x = left(t, nil, 3)
	all := x.table
	all.In = these(upTo(5)...)
	ok(t, x.f.Put(all))
	isSo(t, "one that was left out is in", x.f, all, []int{1, 2, 4, 5}, x.l)
	ok(t, x.f.Admit(3))
	all.Epoch++
	isSo(t, "it is let in", x.f, all, upTo(5), x.l)
	x = left(t, nil)
	x.l[1].Fail()
	f := opened(t, x.l)
	x.l[1].Back()
	all = f.Table()
	all.In[2] = true
	ok(t, f.Put(all))
	isSo(t, "one that didn't answer is in", f, all, []int{1, 3, 4, 5}, x.l)
}

// TestPutNobody: with nobody in there is nobody to be told.
func TestPutNobody(t *testing.T) {
	f, l := created(t, aShape(2, 3), 2, nil)
	table := f.Table()
	table.In = these()
	ok(t, f.Put(table))
	isSo(t, "nobody is in", f, table, nil, l)
	refused(t, "Each, no call", f.Each(nil), api.ErrArg)
	ok(t, f.Each(func(int, *medium.Medium) api.Errno { return api.ErrFull }))
	l[0].Fail()
	before := shown(l)
	table.In = these(2)
	ok(t, f.Settle(), f.Put(table))
	isSo(t, "one is in", f, table, []int{2}, l)
	if !slices.EqualFunc(shown(l), before, bytes.Equal) {
		t.Error("somebody is told")
	}
}

// TestSettleNone: who is up, who came back, and who isn't live is nothing to settle.
func TestSettleNone(t *testing.T) {
	p := medium.NewPower(-1)
	f, l := created(t, aShape(2, 5), 2, p)
	settle := func() api.Errno { return f.Settle() }
	changesNothing(t, "all are up", f, l, p, settle, api.OK)
	l[3].Fail()
	l[3].Back()
	changesNothing(t, "one came back", f, l, p, settle, api.OK)
	l[3].Fail()
	ok(t, f.Settle())
	changesNothing(t, "one is out", f, l, p, settle, api.OK)
	l[3].Back()
	changesNothing(t, "one that is out came back", f, l, p, settle, api.OK)
	ok(t, l[0].Lose(0))
	changesNothing(t, "a sector is lost", f, l, p, settle, api.OK)
	p.Set(0)
	changesNothing(t, "the power is out", f, l, p, settle, api.OK)
}

// TestSettle: each choice of failed ones, of each n and t, out of all or out of those that are left.
func TestSettle(t *testing.T) {
	for n := 1; n <= 6; n++ {
		for threshold := 1; threshold <= n; threshold++ {
			for bits := range 1 << n {
				settles(t, n, threshold, bits)
			}
		}
	}
}

// settles: those that fail are left out at once, or there aren't enough.
func settles(t *testing.T, n, threshold, bits int) {
	t.Helper()
	p := medium.NewPower(-1)
	f, l := created(t, aShape(threshold, n), 1, p)
	table := busyTable(n, threshold, 1)
	table.Mode, table.C = 0, 0
	ok(t, f.Put(table))
	var live []int
	for i, m := range l {
		if bits>>i&1 == 1 {
			m.Fail()
		} else {
			live = append(live, i+1)
		}
	}
	if len(live) < threshold || 2*len(live) <= n {
		changesNothing(t, "too few are left", f, l, p, f.Settle, api.ErrDegraded)
		for _, m := range l {
			m.Back()
		}
		changesNothing(t, "they came back", f, l, p, f.Settle, api.OK)
		return
	}
	want := table
	if len(live) < n {
		want.Epoch, want.In = 10, these(live...)
	}
	ok(t, f.Settle())
	isSo(t, "Settle", f, want, live, l)
	for i, m := range l {
		m.Back()
		had := table
		if slices.Contains(live, i+1) {
			had = want
		}
		had.Place = byte(i + 1)
		if got, err := journal.Super(m); err != api.OK || got != had || len(m.Cached()) != 0 {
			t.Fatalf("the member %d has %v, %d, not %v", i+1, got, err, had)
		}
	}
}

// TestSettleOrder: the table to the others, in order, wherever the power ends; ahead of its end all are live as they were.
func TestSettleOrder(t *testing.T) {
	for _, out := range [][]int{nil, {2}} {
		for _, failed := range [][]int{{1}, {3}, {5}, {1, 4}} {
			if len(out)+len(failed) > 2 {
				continue
			}
			start := func(p *medium.Power) started {
				x := left(t, p, out...)
				for _, place := range failed {
					x.l[place-1].Fail()
				}
				return x
			}
			x := start(nil)
			table, live := x.table, without(x.live, failed...)
			table.Epoch, table.In = table.Epoch+1, these(live...)
			moves(t, "Settle", start, puts(t, table, live...), (*Fleet).Settle, table, live)
		}
	}
}

// TestSettleAgain: one behind the other, till there aren't enough.
func TestSettleAgain(t *testing.T) {
	f, l := created(t, aShape(2, 5), 2, nil)
	table := firstTable(aShape(2, 5), 2)
	for _, place := range []int{3, 1} {
		l[place-1].Fail()
		ok(t, f.Settle())
		table.Epoch++
		table.In[place] = false
		isSo(t, "Settle", f, table, in(table.In), l)
	}
	l[0].Back()
	l[2].Back()
	l[4].Fail()
	refused(t, "Settle", f.Settle(), api.ErrDegraded)
	isSo(t, "Settle", f, table, []int{2, 4, 5}, l)
}

// P18.2, Admit and Replace

// TestAdmit: who isn't live is told the table with it, and all others, too.
func TestAdmit(t *testing.T) {
	for _, out := range [][]int{{1}, {3}, {5}, {1, 5}, {2, 3}} {
		for _, place := range out {
			start := func(p *medium.Power) started { return left(t, p, out...) }
			x := start(nil)
			table := x.table
			table.Epoch = 3
			table.In[place] = true
			live := in(table.In)
			moves(t, "Admit", start, puts(t, table, live...), func(f *Fleet) api.Errno { return f.Admit(place) }, table, live)
		}
	}
}

// TestAdmitAll: one behind the other, and each left out again.
func TestAdmitAll(t *testing.T) {
	x := left(t, nil, 2, 4)
	for _, place := range []int{4, 2} {
		ok(t, x.f.Admit(place))
		x.table.Epoch++
		x.table.In[place] = true
		isSo(t, "Admit", x.f, x.table, in(x.table.In), x.l)
	}
	x.l[3].Fail()
	ok(t, x.f.Settle())
	x.table.Epoch++
	x.table.In[4] = false
	isSo(t, "Settle", x.f, x.table, in(x.table.In), x.l)
	x.l[3].Back()
	_, closed := next(x.table, in(x.table.In))
	isSo(t, "Open", opened(t, x.l), closed, in(x.table.In), x.l)
}

// TestAdmitErrors: each one, and of several the first one.
func TestAdmitErrors(t *testing.T) {
	p := medium.NewPower(-1)
	x := left(t, p, 2, 4)
	admit := func(place int) func() api.Errno { return func() api.Errno { return x.f.Admit(place) } }
	for _, place := range []int{0, -1, 6, 7, 255, 256, 257, 1<<32 + 2, math.MinInt, math.MaxInt} {
		changesNothing(t, "no such place", x.f, x.l, p, admit(place), api.ErrRange)
	}
	for _, place := range x.live {
		changesNothing(t, "one that is live", x.f, x.l, p, admit(place), api.ErrSame)
	}
	x.l[1].Fail()
	changesNothing(t, "one that failed", x.f, x.l, p, admit(2), api.ErrDown)
	x.l[1].Back()
	p.Set(0)
	changesNothing(t, "without power", x.f, x.l, p, admit(2), api.ErrDown)
	p.Set(-1)
	ok(t, x.f.Admit(2))
	x.l[0].Fail()
	changesNothing(t, "one that is live, and failed", x.f, x.l, p, admit(1), api.ErrSame)
}

// TestAdmitNil: where a nil medium was handed in there is nobody.
func TestAdmitNil(t *testing.T) {
	p := medium.NewPower(-1)
	_, l := created(t, aShape(2, 3), 2, p)
	l[1] = nil
	f := opened(t, l)
	changesNothing(t, "nobody", f, l, p, func() api.Errno { return f.Admit(2) }, api.ErrDown)
	l[1] = blanks(t, 1, 20, p)[0]
	ok(t, f.Replace(2, l[1]), f.Admit(2))
	table := firstTable(aShape(2, 3), 2)
	table.Boot, table.Epoch = 2, 2
	isSo(t, "Admit", f, table, upTo(3), l)
}

// TestAdmitFailed: a live one that failed ends it, with those ahead of it written; nothing is flushed, and who isn't live isn't.
func TestAdmitFailed(t *testing.T) {
	x := left(t, nil, 2)
	table := x.table
	table.Epoch, table.In = 3, these(upTo(5)...)
	x.l[3].Fail()
	want := copied(x.l, nil)
	for _, o := range writes(t, table, 1, 2, 3) {
		o.do(t, want)
	}
	refused(t, "Admit", x.f.Admit(2), api.ErrDown)
	alike(t, "Admit", x.l, want)
	isSo(t, "Admit", x.f, x.table, x.live, x.l)
}

// TestAdmitIn: one that is in by the table, and isn't live, is let in likewise.
func TestAdmitIn(t *testing.T) {
	x := left(t, nil, 2)
	table := x.table
	table.In[2] = true
	ok(t, x.f.Put(table), x.f.Admit(2))
	table.Epoch++
	isSo(t, "Admit", x.f, table, upTo(5), x.l)
}

// TestReplace: another medium stands there; nothing is written, and it isn't live.
func TestReplace(t *testing.T) {
	p := medium.NewPower(-1)
	x := left(t, p, 2, 4)
	for _, place := range []int{2, 4, 2} {
		other := littered(t, 1, 20, p)[0]
		was, had := x.l[place-1], x.l[place-1].Snapshot()
		x.l[place-1] = other
		changesNothing(t, "Replace", x.f, x.l, p, func() api.Errno { return x.f.Replace(place, other) }, api.OK)
		if !bytes.Equal(was.Snapshot(), had) {
			t.Error("the one that stood there is written")
		}
		isSo(t, "Replace", x.f, x.table, x.live, x.l)
	}
	x.l[1].Fail()
	changesNothing(t, "the same one, that failed", x.f, x.l, p, func() api.Errno { return x.f.Replace(2, x.l[1]) }, api.OK)
	changesNothing(t, "who isn't live has failed", x.f, x.l, p, x.f.Settle, api.OK)
	ok(t, x.f.Admit(4))
	x.table.Epoch, x.table.In[4] = 3, true
	isSo(t, "Admit", x.f, x.table, []int{1, 3, 4, 5}, x.l)
	if s, err := journal.Super(x.l[3]); err != api.OK || s.Place != 4 || placeless(s) != x.table {
		t.Error(s, err)
	}
}

// TestReplaceErrors: each one, and of several the first one.
func TestReplaceErrors(t *testing.T) {
	p := medium.NewPower(-1)
	x := left(t, p, 2)
	replace := func(place int, m *medium.Medium) func() api.Errno {
		return func() api.Errno { return x.f.Replace(place, m) }
	}
	fit := blanks(t, 1, 20, p)[0]
	bad := append(blanks(t, 1, 19, p), blanks(t, 1, 21, p)[0], blanks(t, 1, 1, p)[0], blanks(t, 1, 2048, p)[0], nil)
	for _, m := range append(bad, fit) {
		for _, place := range []int{0, -1, 6, 7, 255, 256, 258, 1<<32 + 2, math.MinInt, math.MaxInt} {
			changesNothing(t, "no such place", x.f, x.l, p, replace(place, m), api.ErrRange)
		}
		for _, place := range x.live {
			changesNothing(t, "one that is live", x.f, x.l, p, replace(place, m), api.ErrSame)
			x.l[place-1].Fail()
			changesNothing(t, "one that is live, and failed", x.f, x.l, p, replace(place, m), api.ErrSame)
			x.l[place-1].Back()
		}
	}
	for _, m := range bad {
		changesNothing(t, "other sectors", x.f, x.l, p, replace(2, m), api.ErrArg)
	}
	p.Set(0)
	x.l[1] = fit
	changesNothing(t, "without power", x.f, x.l, p, replace(2, fit), api.OK)
}

// TestReplaceStands: the one that stood is gone; who is there now is live only when it is let in.
func TestReplaceStands(t *testing.T) {
	x := left(t, nil)
	out := x.table
	out.In[3] = false
	ok(t, x.f.Put(out))
	x.l[2] = blanks(t, 1, 20, nil)[0]
	ok(t, x.f.Replace(3, x.l[2]), x.f.Put(x.table))
	isSo(t, "Replace", x.f, x.table, []int{1, 2, 4, 5}, x.l)
	ok(t, x.f.Admit(3))
	x.table.Epoch++
	isSo(t, "Admit", x.f, x.table, upTo(5), x.l)
}

// plain is a fleet by the chapter's words, on media of its own.
type plain struct {
	l     []*medium.Medium
	table sector.Super
	stood [256]bool
}

func (x *plain) live() []int { return both(in(x.stood), in(x.table.In)) }

// put: a table, to those.
func (x *plain) put(t *testing.T, table sector.Super, to []int) api.Errno {
	for _, p := range to {
		table.Place = byte(p)
		if _, err := table.Bytes(); err != api.OK {
			return err
		}
	}
	for _, o := range writes(t, table, to...) {
		if !x.l[o.place-1].Up() {
			return api.ErrDown
		}
		o.do(t, x.l)
	}
	for _, o := range flushes(to...) {
		o.do(t, x.l)
	}
	x.table = table
	return api.OK
}

func (x *plain) settle(t *testing.T) api.Errno {
	table, stood := x.table, x.stood
	for _, p := range x.live() {
		if !x.l[p-1].Up() {
			table.In[p], stood[p] = false, false
		}
	}
	if slices.Equal(in(table.In), in(x.table.In)) {
		return api.OK
	}
	if left := len(in(table.In)); left < int(table.T) || 2*left <= int(table.N) {
		return api.ErrDegraded
	}
	table.Epoch++
	err := x.put(t, table, both(in(stood), in(table.In)))
	if err == api.OK {
		x.stood = stood
	}
	return err
}

func (x *plain) admit(t *testing.T, place int) api.Errno {
	switch {
	case place < 1 || place > len(x.l):
		return api.ErrRange
	case slices.Contains(x.live(), place):
		return api.ErrSame
	case !x.l[place-1].Up():
		return api.ErrDown
	}
	table := x.table
	table.Epoch++
	table.In[place] = true
	to := append(x.live(), place)
	slices.Sort(to)
	err := x.put(t, table, to)
	if err == api.OK {
		x.stood[place] = true
	}
	return err
}

func (x *plain) replace(place int, m *medium.Medium) api.Errno {
	switch {
	case place < 1 || place > len(x.l):
		return api.ErrRange
	case slices.Contains(x.live(), place):
		return api.ErrSame
	case m.Len() != x.l[0].Len():
		return api.ErrArg
	}
	x.l[place-1] = m
	x.stood[place] = false
	return api.OK
}

// open: what Open tells of these media, and does to them.
func (x *plain) open(t *testing.T) (*plain, api.Errno) {
	var supers []sector.Super
	for i, m := range x.l {
		if s, err := journal.Super(m); err == api.OK && int(s.Place) == i+1 {
			supers = append(supers, s)
		}
	}
	if len(supers) == 0 {
		return nil, api.ErrNone
	}
	table := supers[0]
	for _, s := range supers {
		if s.Name != table.Name {
			return nil, api.ErrAlien
		}
		if s.Boot > table.Boot || s.Boot == table.Boot && s.Epoch > table.Epoch {
			table = s
		}
	}
	var current []int
	for _, s := range supers {
		if table.In[s.Place] {
			current = append(current, int(s.Place))
		}
	}
	if 2*len(supers) <= len(x.l) {
		return nil, api.ErrQuorum
	}
	if len(current) < int(table.T) || 2*len(current) <= len(x.l) {
		return nil, api.ErrDegraded
	}
	out := &plain{l: x.l, table: table, stood: these(current...)}
	first, closed := next(table, current)
	ok(t, out.put(t, first, current), out.put(t, closed, current))
	return out, api.OK
}

// anyTable: the table of a fleet, with something changed.
func anyTable(r *rand.Rand, s sector.Super) sector.Super {
	switch r.Intn(8) {
	case 0:
		p := 1 + r.Intn(int(s.N))
		s.In[p] = !s.In[p]
	case 1:
		s.Scrub = 4
	case 2:
		s.In[s.N+1] = true
	default:
		s.Refresh = uint32(r.Intn(4))
	}
	return s
}

// TestPlainly: any calls in any order, against the chapter's words.
func TestPlainly(t *testing.T) {
	r := rand.New(rand.NewSource(1))
	done := map[string]map[api.Errno]int{"Put": {}, "Settle": {}, "Admit": {}, "Replace": {}, "Open": {}}
	for range 400 {
		n := 1 + r.Intn(6)
		s := stripe.Shape{Mode: r.Intn(2), T: 1 + r.Intn(n), N: n, C: r.Intn(128)}
		f, l := created(t, s, 2, nil)
		x := &plain{l: copied(l, nil), table: firstTable(s, 2), stood: these(upTo(n)...)}
		for range 60 {
			what, got, want := "", api.OK, api.OK
			place := r.Intn(n + 2)
			switch r.Intn(11) {
			case 0:
				table := anyTable(r, x.table)
				what, got, want = "Put", f.Put(table), x.put(t, table, x.live())
			case 1, 2:
				what, got, want = "Settle", f.Settle(), x.settle(t)
			case 3, 4:
				what, got, want = "Admit", f.Admit(place), x.admit(t, place)
			case 5:
				m := blanks(t, 1, 20+r.Intn(5)/4, nil)[0]
				other := m.Copy(nil)
				what, got, want = "Replace", f.Replace(place, m), x.replace(place, other)
				if got == api.OK {
					l[place-1] = m
				}
			case 6:
				g, err := Open(l)
				y, wanted := x.open(t)
				what, got, want = "Open", err, wanted
				if g != nil && y != nil {
					f, x = g, y
				}
			case 7:
				happens(t, r, place, l, x.l)
			default:
				onMember(place, l, x.l, (*medium.Medium).Back)
			}
			if got != want {
				t.Fatalf("%s: %d, not %d", what, got, want)
			}
			if what != "" {
				done[what][got]++
			}
			isSo(t, what, f, x.table, x.live(), l)
			alike(t, what, l, x.l)
		}
	}
	toldOften(t, done)
}

// toldOften: each error that a call may have was among its answers.
func toldOften(t *testing.T, done map[string]map[api.Errno]int) {
	t.Helper()
	for what, errs := range map[string][]api.Errno{
		"Put":     {api.OK, api.ErrDown, api.ErrRange},
		"Settle":  {api.OK, api.ErrDegraded},
		"Admit":   {api.OK, api.ErrRange, api.ErrSame, api.ErrDown},
		"Replace": {api.OK, api.ErrRange, api.ErrSame, api.ErrArg},
		"Open":    {api.OK, api.ErrNone, api.ErrQuorum, api.ErrDegraded},
	} {
		for _, err := range errs {
			if done[what][err] < 5 {
				t.Errorf("%s: %d is told %d times only", what, err, done[what][err])
			}
		}
	}
}

// onMember: that is done to the member at a place of both, if it is there.
func onMember(place int, a, b []*medium.Medium, do func(m *medium.Medium)) {
	if 1 <= place && place <= len(a) {
		do(a[place-1])
		do(b[place-1])
	}
}

// happens: something to a member.
func happens(t *testing.T, r *rand.Rand, place int, a, b []*medium.Medium) {
	t.Helper()
	how := r.Intn(8)
	onMember(place, a, b, func(m *medium.Medium) {
		switch how {
		case 0:
			ok(t, m.Lose(0))
		case 1:
			m.Crash(nil)
		default:
			m.Fail()
		}
	})
}

// P18.3

// most: each choice of more than half of so many members.
func most(n int) [][]int {
	var out [][]int
	for bits := range 1 << n {
		var places []int
		for i := range n {
			if bits>>i&1 == 1 {
				places = append(places, i+1)
			}
		}
		if 2*len(places) > n {
			out = append(out, places)
		}
	}
	return out
}

// crashed: the media, each way in which a crash may leave them.
func crashed(l []*medium.Medium) [][]*medium.Medium {
	out := [][]*medium.Medium{copied(l, nil)}
	for i, m := range l {
		var more [][]*medium.Medium
		for _, one := range out {
			for bits := range 1 << len(m.Cached()) {
				var keep []bool
				for j := range m.Cached() {
					keep = append(keep, bits>>j&1 == 1)
				}
				other := copied(one, nil)
				other[i].Crash(keep)
				more = append(more, other)
			}
		}
		out = more
	}
	return out
}

// answering: the media, of which those alone answer.
func answering(l []*medium.Medium, places []int) []*medium.Medium {
	out := copied(l, nil)
	for i, m := range out {
		m.Back()
		if !slices.Contains(places, i+1) {
			m.Fail()
		}
	}
	return out
}

// isOf: is what Open has of these members made of that table?
func isOf(f *Fleet, err api.Errno, table sector.Super, places []int) bool {
	current := both(places, in(table.In))
	if len(current) < int(table.T) || 2*len(current) <= int(table.N) {
		return f == nil && err == api.ErrDegraded
	}
	_, closed := next(table, current)
	return err == api.OK && placeless(f.Table()) == placeless(closed) && slices.Equal(f.Live(), current)
}

// crashes: wherever the power ends in a call, whatever stays, and whoever answers then, Open has one of those tables; the last one, if the call went to its end. It answers how often each one was there.
func crashes(t *testing.T, what string, start func(p *medium.Power) started, call func(x started) api.Errno, tables ...sector.Super) []int {
	t.Helper()
	seen := make([]int, len(tables))
	for limit, ended := 0, false; !ended; limit++ {
		p := medium.NewPower(-1)
		x := start(p)
		p.Set(limit)
		ended = call(x) == api.OK
		for _, l := range crashed(x.l) {
			for _, places := range most(len(l)) {
				there := answering(l, places)
				f, err := Open(there)
				which := slices.IndexFunc(tables, func(s sector.Super) bool { return isOf(f, err, s, places) })
				if which < 0 || ended && !isOf(f, err, tables[len(tables)-1], places) {
					t.Fatalf("%s, with power for %d, of %v: %d, live %v", what, limit, places, err, f.Live())
				}
				if err == api.OK {
					seen[which]++
				}
			}
		}
	}
	return seen
}

// eachSeen: each of the tables is there now and then.
func eachSeen(t *testing.T, seen []int) {
	t.Helper()
	if slices.Min(seen) == 0 {
		t.Errorf("one of the tables is never there: %v", seen)
	}
}

// TestCrashPut: a table with other cursors, of the same epoch.
func TestCrashPut(t *testing.T) {
	for _, out := range [][]int{nil, {2}, {1, 5}} {
		start := func(p *medium.Power) started { return left(t, p, out...) }
		old := start(nil).table
		table := old
		table.Refresh = 2
		eachSeen(t, crashes(t, "Put", start, func(x started) api.Errno { return x.f.Put(table) }, old, table))
	}
}

// TestCrashSettle: a table without some.
func TestCrashSettle(t *testing.T) {
	for _, failed := range [][]int{{1}, {5}, {2, 4}} {
		start := func(p *medium.Power) started {
			x := left(t, p)
			for _, place := range failed {
				x.l[place-1].Fail()
			}
			return x
		}
		old := start(nil).table
		table := old
		table.Epoch, table.In = 2, these(without(upTo(5), failed...)...)
		eachSeen(t, crashes(t, "Settle", start, func(x started) api.Errno { return x.f.Settle() }, old, table))
	}
}

// TestCrashAdmit: a table with one more.
func TestCrashAdmit(t *testing.T) {
	for _, out := range [][]int{{1}, {5}, {2, 4}} {
		start := func(p *medium.Power) started { return left(t, p, out...) }
		old := start(nil).table
		table := old
		table.Epoch = 3
		table.In[out[0]] = true
		eachSeen(t, crashes(t, "Admit", start, func(x started) api.Errno { return x.f.Admit(out[0]) }, old, table))
	}
}

// TestCrashOpen: the next table, and the closed one.
func TestCrashOpen(t *testing.T) {
	for _, places := range [][]int{{1, 2, 3, 4, 5}, {1, 2, 3, 4}, {3, 4, 5}} {
		start := func(p *medium.Power) started {
			x := left(t, p)
			for _, place := range without(upTo(5), places...) {
				x.l[place-1].Fail()
			}
			return x
		}
		old := start(nil).table
		first, closed := next(old, places)
		call := func(x started) api.Errno {
			_, err := Open(x.l)
			return err
		}
		seen := crashes(t, "Open", start, call, old, first, closed)
		if len(places) < 5 {
			// With all of them current the two tables can't be told from one another by what Open makes of them.
			eachSeen(t, seen)
		}
	}
}

// TestCrashCreate: there is nobody's table, or the first one.
func TestCrashCreate(t *testing.T) {
	table := firstTable(aShape(2, 3), 1)
	for limit := range 3*19 + 3 + 6 + 1 {
		l := blanks(t, 3, 19, medium.NewPower(limit))
		_, err := Create(aShape(2, 3), name, 1, l)
		for i, m := range l {
			m.Crash([]bool{19: i != 1})
		}
		there := copied(l, nil)
		f, got := Open(there)
		if got == api.OK && !isOf(f, got, table, f.Live()) || got != api.OK && got != api.ErrNone && got != api.ErrQuorum {
			t.Fatal(limit, got)
		}
		if err == api.OK && !isOf(f, got, table, upTo(3)) {
			t.Fatal(limit, got)
		}
	}
}

// random is what a fleet goes through, and what is known of it.
type random struct {
	r        *rand.Rand
	p        *medium.Power
	l        []*medium.Medium
	f        *Fleet
	cursors  []uint32
	boot     uint32
	opened   int
	half     int
	degraded int
}

// acts: some calls, that the power may end in.
func (x *random) acts() {
	for range x.r.Intn(6) {
		place := 1 + x.r.Intn(len(x.l))
		switch x.r.Intn(4) {
		case 0:
			table := x.f.Table()
			table.Refresh = uint32(x.r.Intn(4))
			x.cursors = append(x.cursors, table.Refresh)
			if x.f.Put(table) == api.OK {
				x.cursors = x.cursors[len(x.cursors)-1:]
			}
		case 1:
			x.l[place-1].Fail()
			_ = x.f.Settle()
		case 2:
			x.l[place-1].Back()
			_ = x.f.Admit(place)
		default:
			_ = x.f.Settle()
		}
		if !x.p.On() {
			return
		}
	}
}

// crash: some of each cache stays, and all but some answer.
func (x *random) crash() {
	for _, m := range x.l {
		var keep []bool
		for range m.Cached() {
			keep = append(keep, x.r.Intn(2) == 0)
		}
		m.Crash(keep)
		m.Back()
		if x.r.Intn(4) == 0 {
			m.Fail()
		}
	}
}

// opens: members, with enough power or not; what comes of it is newer than all ahead, and has a cursor that was put.
func (x *random) opens(t *testing.T) bool {
	t.Helper()
	x.p.Set(x.r.Intn(5*len(x.l)) - 1)
	f, err := Open(x.l)
	switch err {
	case api.OK:
	case api.ErrDegraded, api.ErrQuorum, api.ErrNone, api.ErrDown:
		if err == api.ErrDegraded {
			x.degraded++
		}
		x.half++
		return false
	default:
		t.Fatal(err)
	}
	table := f.Table()
	if table.Boot <= x.boot || table.Epoch != 1 || !slices.Equal(in(table.In), f.Live()) {
		t.Fatalf("the boot %d, the epoch %d, behind the boot %d", table.Boot, table.Epoch, x.boot)
	}
	if !slices.Contains(x.cursors, table.Refresh) {
		t.Fatalf("a cursor %d that wasn't put: %v", table.Refresh, x.cursors)
	}
	x.f, x.boot, x.cursors = f, table.Boot, []uint32{table.Refresh}
	x.opened++
	return true
}

// TestCrashesAgain: crash behind crash, in whatever is done, with others that answer each time.
func TestCrashesAgain(t *testing.T) {
	r := rand.New(rand.NewSource(2))
	opened, half, degraded := 0, 0, 0
	for range 60 {
		n := 1 + r.Intn(6)
		p := medium.NewPower(-1)
		f, l := created(t, aShape(1+r.Intn(n), n), 1, p)
		x := &random{r: r, p: p, l: l, f: f, cursors: []uint32{0}, boot: 1}
		for range 60 {
			p.Set(r.Intn(4*n+4) - 1)
			x.acts()
			for tries := 0; ; tries++ {
				p.Set(-1)
				x.crash()
				if tries == 20 {
					for _, m := range l {
						m.Back()
					}
					tries = 0
				}
				if x.opens(t) {
					break
				}
			}
		}
		opened, half, degraded = opened+x.opened, half+x.half, degraded+x.degraded
	}
	if opened < 1000 || half < 1000 || degraded < 100 {
		t.Error(opened, half, degraded)
	}
}

// Memory

// TestGivenStays: what is handed in is neither changed nor kept.
func TestGivenStays(t *testing.T) {
	room := append(blanks(t, 3, 20, nil), nil, nil)
	l := room[:3]
	mine := slices.Clone(room)
	n := append(slices.Clone(name), 7, 7)
	f, err := Create(aShape(2, 3), n[:8], 2, l)
	ok(t, err)
	g := opened(t, l)
	mine[0].Fail()
	ok(t, g.Settle(), g.Replace(1, blanks(t, 1, 20, nil)[0]))
	if !slices.Equal(room, mine) || string(n) != "largesse\a\a" {
		t.Error("what is handed in is changed")
	}
	clear(room)
	clear(n)
	for i, m := range mine[:3] {
		if f.Member(i+1) != m || i > 0 && g.Member(i+1) != m {
			t.Error("what is handed in is kept")
		}
	}
	if f.Table().Name != [8]byte(name) || g.Table().Name != [8]byte(name) {
		t.Error("what is handed in is kept")
	}
	if f.Member(1) == g.Member(1) {
		t.Error("two fleets share their places")
	}
}

// TestAnswersNew: of an answer that is changed nothing else tells.
func TestAnswersNew(t *testing.T) {
	f, l := created(t, aShape(2, 3), 2, nil)
	table := f.Table()
	table.In[1] = false
	live, other := f.Live(), f.Live()
	clear(live)
	_ = append(live, 9)
	isSo(t, "behind changes of answers", f, firstTable(aShape(2, 3), 2), upTo(3), l)
	if !slices.Equal(other, upTo(3)) {
		t.Error(other)
	}
}

// TestTellingTakesNothing: neither power nor anything else.
func TestTellingTakesNothing(t *testing.T) {
	p := medium.NewPower(-1)
	f, l := created(t, aShape(2, 3), 2, p)
	p.Set(2)
	changesNothing(t, "telling", f, l, p, func() api.Errno {
		for range 5 {
			_, _, _, _ = f.Shape(), f.Table(), f.Live(), f.Member(2)
		}
		return f.Each(func(int, *medium.Medium) api.Errno { return api.OK })
	}, api.OK)
}

// Examples

// TestExample: chapter 18's own.
func TestExample(t *testing.T) {
	f, l := created(t, aShape(2, 3), 4, nil)
	l[2].Fail()
	ok(t, f.Settle())
	if !slices.Equal(f.Live(), []int{1, 2}) || f.Shape().N != 3 || f.Table().Epoch != 2 {
		t.Error(f.Live(), f.Table())
	}
}
