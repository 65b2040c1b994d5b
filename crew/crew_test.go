package crew

import (
	"math"
	"math/rand"
	"slices"
	"testing"

	"largesse/api"
	"largesse/sector"
)

// aSuper: one of an array of n members, with something everywhere; all are in.
func aSuper(n, t, place int) sector.Super {
	s := sector.Super{Name: [8]byte{'l', 'a', 'r', 'g', 'e', 's', 's', 'e'}, Place: byte(place), N: byte(n), T: byte(t), Mode: 1, C: 4,
		Blocks: 20, Boot: 4, Epoch: 7, Refresh: 9, Scrub: 10, Target: 1, Resync: 11}
	for i := 1; i <= n; i++ {
		s.In[i] = true
	}
	return s
}

// supers: those of an array of n members, at these places.
func supers(n, t int, places ...int) []sector.Super {
	var out []sector.Super
	for _, p := range places {
		out = append(out, aSuper(n, t, p))
	}
	return out
}

// upTo: the places from 1 on.
func upTo(n int) []int {
	var out []int
	for i := 1; i <= n; i++ {
		out = append(out, i)
	}
	return out
}

// these: who is in, if it is those.
func these(places ...int) [256]bool {
	var out [256]bool
	for _, p := range places {
		out[p] = true
	}
	return out
}

// shuffled: the same ones in any order.
func shuffled(r *rand.Rand, l []sector.Super) []sector.Super {
	out := slices.Clone(l)
	r.Shuffle(len(out), func(i, j int) { out[i], out[j] = out[j], out[i] })
	return out
}

// orders: the same ones in all orders.
func orders(l []sector.Super) [][]sector.Super {
	if len(l) == 0 {
		return [][]sector.Super{nil}
	}
	var out [][]sector.Super
	for i := range l {
		rest := slices.Delete(slices.Clone(l), i, i+1)
		for _, o := range orders(rest) {
			out = append(out, append([]sector.Super{l[i]}, o...))
		}
	}
	return out
}

// gathering is Gather or Salvage.
type gathering struct {
	name string
	call func([]sector.Super) (Crew, api.Errno)
}

// both: Gather, and Salvage.
func both() []gathering {
	return []gathering{{"Gather", Gather}, {"Salvage", Salvage}}
}

// gathered: that these are told so, by a call.
func gathered(t *testing.T, g gathering, l []sector.Super, table sector.Super, current ...int) {
	t.Helper()
	c, err := g.call(l)
	if err != api.OK || c.Table != table || !slices.Equal(c.Current, current) {
		t.Fatalf("%s of %d supers: place %d, boot %d, epoch %d, current %v, error %d; not place %d, boot %d, epoch %d, current %v", g.name, len(l),
			c.Table.Place, c.Table.Boot, c.Table.Epoch, c.Current, err, table.Place, table.Boot, table.Epoch, current)
	}
}

// notGathered: that these are refused by a call, and nothing is told beside.
func notGathered(t *testing.T, g gathering, l []sector.Super, want api.Errno) {
	t.Helper()
	c, err := g.call(l)
	if err != want || c.Table != (sector.Super{}) || len(c.Current) != 0 {
		t.Fatalf("%s of %d supers: error %d, current %v; not %d", g.name, len(l), err, c.Current, want)
	}
}

// tabled: that a table is told.
func tabled(t *testing.T, what string, got sector.Super, err api.Errno, want sector.Super) {
	t.Helper()
	if err != api.OK || got != want {
		t.Fatalf("%s: %v, error %d; not %v", what, got, err, want)
	}
}

// notTabled: that no table is told, and that error.
func notTabled(t *testing.T, what string, got sector.Super, err, want api.Errno) {
	t.Helper()
	if err != want || got != (sector.Super{}) {
		t.Fatalf("%s: %v, error %d; not %d", what, got, err, want)
	}
}

// P16.1

// TestExample: the chapter's.
func TestExample(t *testing.T) {
	l := supers(3, 2, 1, 3)
	c, err := Gather(l)
	if err != api.OK || !slices.Equal(c.Current, []int{1, 3}) {
		t.Fatal(c.Current, err)
	}
	next := l[0]
	next.Boot, next.Epoch = 5, 0
	got, err := c.Next()
	tabled(t, "next", got, err, next)
	next.Epoch, next.In = 1, these(1, 3)
	got, err = c.Closed()
	tabled(t, "closed", got, err, next)
}

// TestNobody: of no supers.
func TestNobody(t *testing.T) {
	for _, g := range both() {
		notGathered(t, g, nil, api.ErrNone)
		notGathered(t, g, []sector.Super{}, api.ErrNone)
		notGathered(t, g, supers(3, 2, 1, 2, 3)[:0], api.ErrNone)
	}
}

// TestAlone: an array of one member.
func TestAlone(t *testing.T) {
	for _, g := range both() {
		l := supers(1, 1, 1)
		gathered(t, g, l, l[0], 1)
	}
}

// strangers: what can be wrong with a super that is no member's of the same array: each bit of each such number.
func strangers() []func(s *sector.Super) {
	var out []func(s *sector.Super)
	for bit := range 8 {
		for i := range 8 {
			out = append(out, func(s *sector.Super) { s.Name[i] ^= 1 << bit })
		}
		out = append(out,
			func(s *sector.Super) { s.N ^= 1 << bit },
			func(s *sector.Super) { s.T ^= 1 << bit },
			func(s *sector.Super) { s.Mode ^= 1 << bit },
			func(s *sector.Super) { s.C ^= 1 << bit })
	}
	for bit := range 32 {
		out = append(out, func(s *sector.Super) { s.Blocks ^= 1 << bit })
	}
	return out
}

// TestAlien: one of them, anywhere in the list, is of another array.
func TestAlien(t *testing.T) {
	for i, spoil := range strangers() {
		for at := range 5 {
			for _, g := range both() {
				l := supers(5, 2, 4, 1, 5, 3, 2)
				gathered(t, g, l, l[1], 1, 2, 3, 4, 5)
				spoil(&l[at])
				notGathered(t, g, l, api.ErrAlien)
				l[at].Boot = 100 + uint32(i)
				notGathered(t, g, l, api.ErrAlien)
				l[at].Boot = 0
				notGathered(t, g, l, api.ErrAlien)
			}
		}
	}
}

// TestAllStrange: what all say alike makes nobody alien.
func TestAllStrange(t *testing.T) {
	for _, spoil := range strangers() {
		l := supers(5, 2, 1, 2, 3, 4, 5)
		for i := range l {
			spoil(&l[i])
		}
		for _, g := range both() {
			if _, err := g.call(l); err == api.ErrAlien {
				t.Fatalf("%s: alien: %v", g.name, l[0])
			}
		}
	}
}

// TestBelong: what may be unlike.
func TestBelong(t *testing.T) {
	unlike := []func(s *sector.Super){
		func(s *sector.Super) { s.Boot-- },
		func(s *sector.Super) { s.Epoch-- },
		func(s *sector.Super) { s.In = these(5) },
		func(s *sector.Super) { s.Refresh++ },
		func(s *sector.Super) { s.Scrub++ },
		func(s *sector.Super) { s.Target++ },
		func(s *sector.Super) { s.Resync++ },
	}
	for _, change := range unlike {
		for at := range 5 {
			l := supers(5, 2, 1, 2, 3, 4, 5)
			l[0].Epoch++
			table := l[0]
			if at > 0 {
				change(&l[at])
			}
			for _, g := range both() {
				gathered(t, g, l, table, 1, 2, 3, 4, 5)
			}
		}
	}
}

// TestSamePlace: two of one place, whatever else they say, wherever they are.
func TestSamePlace(t *testing.T) {
	for _, place := range []int{0, 1, 2, 3, 5, 255} {
		for i := range 5 {
			for j := range i {
				l := supers(5, 1, 1, 2, 3, 4, 5)
				l[i].Place, l[j].Place = byte(place), byte(place)
				for _, g := range both() {
					notGathered(t, g, l, api.ErrAlien)
				}
				l[i].Boot, l[j].Epoch = 9, 0
				for _, g := range both() {
					notGathered(t, g, l, api.ErrAlien)
				}
			}
		}
	}
}

// TestTable: the greatest boot, then the greatest epoch, then the lowest place, in whatever order they come.
func TestTable(t *testing.T) {
	type age struct{ boot, epoch uint32 }
	cases := []struct {
		ages [4]age
		want int
	}{
		{[4]age{{4, 7}, {4, 7}, {4, 7}, {4, 7}}, 1},
		{[4]age{{4, 7}, {4, 8}, {4, 7}, {4, 7}}, 2},
		{[4]age{{4, 7}, {4, 8}, {4, 8}, {4, 8}}, 2},
		{[4]age{{4, 7}, {4, 8}, {5, 0}, {4, 9}}, 3},
		{[4]age{{4, 7}, {3, 9}, {4, 6}, {5, 0}}, 4},
		{[4]age{{4, 7}, {5, 1}, {5, 2}, {5, 2}}, 3},
		{[4]age{{0, 0}, {0, 0}, {0, 1}, {0, 0}}, 3},
		{[4]age{{0, math.MaxUint32}, {0, 0}, {1, 0}, {0, 1}}, 3},
		{[4]age{{1 << 31, 0}, {1<<31 - 1, math.MaxUint32}, {0, 5}, {1 << 31, 0}}, 1},
		{[4]age{{1<<31 - 1, 7}, {1 << 31, 0}, {0, 5}, {1, 0}}, 2},
		{[4]age{{1, 7}, {1 << 31, 0}, {math.MaxUint32, 0}, {1, 0}}, 3},
		{[4]age{{1, 1<<31 - 1}, {1, 1 << 31}, {1, 0}, {1, math.MaxUint32}}, 4},
		{[4]age{{1, 1<<31 - 1}, {1, 1 << 31}, {1, 0}, {1, 1}}, 2},
	}
	for _, c := range cases {
		l := supers(4, 1, 1, 2, 3, 4)
		for i := range l {
			l[i].Boot, l[i].Epoch, l[i].Refresh = c.ages[i].boot, c.ages[i].epoch, uint32(i)
		}
		for _, o := range orders(l) {
			for _, g := range both() {
				gathered(t, g, o, l[c.want-1], 1, 2, 3, 4)
			}
		}
	}
}

// TestCurrent: who is there, and in by the table, not by what it says itself.
func TestCurrent(t *testing.T) {
	l := supers(5, 1, 1, 2, 3, 4)
	l[0].In = these(3)
	l[1].In = these()
	l[2].Epoch++
	l[2].In = these(1, 3, 4, 5)
	l[3].In = these(1, 2, 3, 5)
	for _, o := range orders(l) {
		for _, g := range both() {
			gathered(t, g, o, l[2], 1, 3, 4)
		}
	}
}

// TestTableOut: whose table it is need not be in by it.
func TestTableOut(t *testing.T) {
	l := supers(3, 2, 1, 2, 3)
	l[1].Boot++
	l[1].In = these(1, 3)
	for _, g := range both() {
		gathered(t, g, l, l[1], 1, 3)
	}
}

// TestRising: the places of those that are current, of as many as there may be.
func TestRising(t *testing.T) {
	r := rand.New(rand.NewSource(1))
	for _, n := range []int{1, 2, 7, 128, 254, 255} {
		l := supers(n, 1, upTo(n)...)
		for range 5 {
			for _, g := range both() {
				gathered(t, g, shuffled(r, l), l[0], upTo(n)...)
			}
		}
	}
}

// TestQuorum: those that are there are half of n, or one more.
func TestQuorum(t *testing.T) {
	for n := range 256 {
		all := supers(n, 1, upTo(n)...)
		if few := all[:n/2]; len(few) > 0 {
			notGathered(t, gathering{"Gather", Gather}, few, api.ErrQuorum)
			gathered(t, gathering{"Salvage", Salvage}, few, few[0], upTo(n/2)...)
		}
		if n > 0 {
			more := all[:n/2+1]
			for _, g := range both() {
				gathered(t, g, more, more[0], upTo(n/2+1)...)
			}
		}
	}
}

// TestQuorumCountsAll: also those that aren't in.
func TestQuorumCountsAll(t *testing.T) {
	l := supers(5, 1, 1, 2, 3)
	l[0].Epoch++
	l[0].In = these(1, 4, 5)
	notGathered(t, gathering{"Gather", Gather}, l, api.ErrDegraded)
	notGathered(t, gathering{"Gather", Gather}, l[:2], api.ErrQuorum)
	gathered(t, gathering{"Salvage", Salvage}, l, l[0], 1)
	gathered(t, gathering{"Salvage", Salvage}, l[:2], l[0], 1)
}

// TestDegraded: each number of current ones, of each n and t, those too that can't be.
func TestDegraded(t *testing.T) {
	for n := range 8 {
		for threshold := range 10 {
			for k := range n + 1 {
				l := supers(n, threshold, upTo(max(n, 1))...)
				for i := range l {
					l[i].In = these(upTo(k)...)
				}
				tell, most := k >= threshold, k > n/2
				for _, g := range both() {
					if tell && (most || g.name == "Salvage") {
						gathered(t, g, l, l[0], upTo(k)...)
					} else {
						notGathered(t, g, l, api.ErrDegraded)
					}
				}
			}
		}
	}
}

// TestDegradedEnds: likewise at the greatest n.
func TestDegradedEnds(t *testing.T) {
	for _, c := range []struct {
		threshold, k    int
		gather, salvage api.Errno
	}{
		{255, 255, api.OK, api.OK},
		{255, 254, api.ErrDegraded, api.ErrDegraded},
		{128, 128, api.OK, api.OK},
		{128, 127, api.ErrDegraded, api.ErrDegraded},
		{127, 127, api.ErrDegraded, api.OK},
		{1, 127, api.ErrDegraded, api.OK},
		{1, 1, api.ErrDegraded, api.OK},
		{1, 0, api.ErrDegraded, api.ErrDegraded},
		{0, 0, api.ErrDegraded, api.OK},
	} {
		l := supers(255, c.threshold, upTo(255)...)
		for i := range l {
			l[i].In = these(upTo(c.k)...)
		}
		for i, want := range []api.Errno{c.gather, c.salvage} {
			if want == api.OK {
				gathered(t, both()[i], l, l[0], upTo(c.k)...)
			} else {
				notGathered(t, both()[i], l, want)
			}
		}
	}
}

// TestFirstError: of several errors the first one.
func TestFirstError(t *testing.T) {
	gather, salvage := both()[0], both()[1]
	l := supers(5, 3, 1, 2)
	l[0].In, l[1].In = these(), these()
	notGathered(t, gather, l, api.ErrQuorum)
	notGathered(t, salvage, l, api.ErrDegraded)
	l[1].C++
	notGathered(t, gather, l, api.ErrAlien)
	notGathered(t, salvage, l, api.ErrAlien)
	l = supers(5, 3, 2, 2)
	notGathered(t, gather, l, api.ErrAlien)
	notGathered(t, salvage, l, api.ErrAlien)
}

// TestRefused: supers that no sector says: places 0 and above n, and numbers beyond their bounds.
func TestRefused(t *testing.T) {
	for _, g := range both() {
		l := supers(3, 2, 255, 0, 7)
		for i := range l {
			l[i].In = these(0, 7, 9, 255)
		}
		gathered(t, g, l, l[1], 0, 7, 255)
		for i := range l {
			l[i].Mode, l[i].C, l[i].Blocks, l[i].Target, l[i].Scrub = 200, 255, 0, 99, math.MaxUint32
		}
		gathered(t, g, l, l[1], 0, 7, 255)
		l[2].In[0] = false
		l[2].Epoch++
		gathered(t, g, l, l[2], 7, 255)
		none := supers(0, 0, 0)
		none[0].In[0] = true
		gathered(t, g, none, none[0], 0)
	}
	notGathered(t, both()[0], []sector.Super{{}}, api.ErrDegraded)
	gathered(t, both()[1], []sector.Super{{}}, sector.Super{})
}

// TestAllPlaces: each place that a byte can name.
func TestAllPlaces(t *testing.T) {
	var l []sector.Super
	var all []int
	for p := range 256 {
		s := aSuper(255, 255, p)
		s.In[0] = true
		l = append(l, s)
		all = append(all, p)
	}
	for _, g := range both() {
		gathered(t, g, shuffled(rand.New(rand.NewSource(2)), l), l[0], all...)
		notGathered(t, g, append(slices.Clone(l), l[0]), api.ErrAlien)
	}
}

// plainly: what chapter 16 says of supers, word by word.
func plainly(l []sector.Super, alone bool) (Crew, api.Errno) {
	if len(l) == 0 {
		return Crew{}, api.ErrNone
	}
	for i, a := range l {
		for j, b := range l {
			if i != j && a.Place == b.Place || a.Name != b.Name || a.N != b.N || a.T != b.T || a.Mode != b.Mode || a.C != b.C || a.Blocks != b.Blocks {
				return Crew{}, api.ErrAlien
			}
		}
	}
	table := l[0]
	for _, s := range l {
		age, best := uint64(s.Boot)<<32|uint64(s.Epoch), uint64(table.Boot)<<32|uint64(table.Epoch)
		if age > best || age == best && s.Place < table.Place {
			table = s
		}
	}
	var current []int
	for p := range 256 {
		for _, s := range l {
			if int(s.Place) == p && table.In[p] {
				current = append(current, p)
			}
		}
	}
	n, t := float64(table.N), float64(table.T)
	if !alone && float64(len(l)) <= n/2 {
		return Crew{}, api.ErrQuorum
	}
	if float64(len(current)) < t || !alone && float64(len(current)) <= n/2 {
		return Crew{}, api.ErrDegraded
	}
	return Crew{Table: table, Current: current}, api.OK
}

// anySupers: some that may belong together, or nearly.
func anySupers(r *rand.Rand) []sector.Super {
	n := r.Intn(8)
	of := sector.Super{N: byte(n), T: byte(r.Intn(n + 2)), Mode: byte(r.Intn(2)), Blocks: uint32(r.Intn(3)), Boot: uint32(r.Intn(1 << 31))}
	var out []sector.Super
	for _, p := range r.Perm(n + 1) {
		if r.Intn(5) == 0 {
			continue
		}
		s := of
		s.Place = byte(p)
		s.Boot += uint32(r.Intn(2))
		s.Epoch = uint32(r.Intn(3))
		for i := range n + 1 {
			s.In[i] = r.Intn(6) > 0
		}
		s.Refresh, s.Resync = r.Uint32(), r.Uint32()
		out = append(out, s)
	}
	if len(out) > 0 && r.Intn(10) == 0 {
		s := &out[r.Intn(len(out))]
		strange := strangers()
		strange[r.Intn(len(strange))](s)
	}
	if len(out) > 1 && r.Intn(20) == 0 {
		out[r.Intn(len(out))].Place = out[0].Place
	}
	return out
}

// TestPlainly: any supers, against the chapter's words.
func TestPlainly(t *testing.T) {
	r := rand.New(rand.NewSource(3))
	told := map[api.Errno]int{}
	for range 30000 {
		l := anySupers(r)
		for i, g := range both() {
			want, err := plainly(l, i == 1)
			told[err]++
			if err == api.OK {
				gathered(t, g, l, want.Table, want.Current...)
			} else {
				notGathered(t, g, l, err)
			}
		}
	}
	for _, err := range []api.Errno{api.OK, api.ErrNone, api.ErrAlien, api.ErrQuorum, api.ErrDegraded} {
		if told[err] < 500 {
			t.Errorf("%d is told %d times only", err, told[err])
		}
	}
}

// P16.2

// TestNext: the boot is one more, the epoch 0, and all else as it was.
func TestNext(t *testing.T) {
	for _, boot := range []uint32{0, 1, 4, 1<<31 - 2, 1<<31 - 1} {
		for _, epoch := range []uint32{0, 1, 7, math.MaxUint32} {
			c := Crew{Table: aSuper(9, 3, 2), Current: []int{1, 4}}
			c.Table.In = these(0, 1, 2, 4, 9, 255)
			c.Table.Boot, c.Table.Epoch = boot, epoch
			want := c.Table
			want.Boot, want.Epoch = boot+1, 0
			got, err := c.Next()
			tabled(t, "next", got, err, want)
		}
	}
}

// TestClosed: likewise, with the epoch 1, and with those alone who are current.
func TestClosed(t *testing.T) {
	for _, boot := range []uint32{0, 4, 1<<31 - 1} {
		for _, current := range [][]int{nil, {1}, {1, 4}, {2, 9}, {5, 0, 255, 5}} {
			c := Crew{Table: aSuper(9, 3, 2), Current: current}
			c.Table.In = these(0, 1, 2, 4, 9)
			c.Table.Boot, c.Table.Epoch = boot, 17
			want := c.Table
			want.Boot, want.Epoch, want.In = boot+1, 1, these(current...)
			got, err := c.Closed()
			tabled(t, "closed", got, err, want)
		}
	}
}

// TestLastBoot: behind MaxBoot there is none.
func TestLastBoot(t *testing.T) {
	for _, boot := range []uint32{1 << 31, 1<<31 + 1, math.MaxUint32 - 1, math.MaxUint32} {
		c := Crew{Table: aSuper(3, 2, 1), Current: []int{1, 2, 3}}
		c.Table.Boot = boot
		got, err := c.Next()
		notTabled(t, "next", got, err, api.ErrRange)
		got, err = c.Closed()
		notTabled(t, "closed", got, err, api.ErrRange)
	}
}

// TestBehindAll: the next boot is above each that was seen.
func TestBehindAll(t *testing.T) {
	r := rand.New(rand.NewSource(4))
	for range 5000 {
		l := anySupers(r)
		c, err := Salvage(l)
		if err != api.OK {
			continue
		}
		next, one := c.Next()
		closed, other := c.Closed()
		if one != api.OK || other != api.OK {
			t.Fatal(one, other)
		}
		for _, s := range l {
			if next.Boot <= s.Boot || closed.Boot != next.Boot {
				t.Fatalf("boots %d, %d behind %d", next.Boot, closed.Boot, s.Boot)
			}
		}
	}
}

// TestNoPlaces: current ones that are nobody's are nobody.
func TestNoPlaces(t *testing.T) {
	c := Crew{Table: aSuper(3, 2, 1), Current: []int{-1, 2, 256, math.MinInt, math.MaxInt, 1<<32 + 3, -255}}
	want := c.Table
	want.Boot, want.Epoch, want.In = 5, 1, these(2)
	got, err := c.Closed()
	tabled(t, "closed", got, err, want)
}

// TestWithout: each place that is in, and each that isn't.
func TestWithout(t *testing.T) {
	for _, n := range []int{1, 2, 5, 255} {
		for _, in := range [][]int{upTo(n), {n}, {}} {
			c := Crew{Table: aSuper(n, 1, n), Current: []int{n}}
			c.Table.In = these(in...)
			for p := 1; p <= n; p++ {
				without, none := c.Without(p)
				with, same := c.With(p)
				want := c.Table
				want.Epoch = 8
				want.In[p] = !want.In[p]
				if slices.Contains(in, p) {
					tabled(t, "without", without, none, want)
					notTabled(t, "with", with, same, api.ErrSame)
				} else {
					notTabled(t, "without", without, none, api.ErrNone)
					tabled(t, "with", with, same, want)
				}
			}
		}
	}
}

// TestNoSuchPlace: places that aren't 1 to n, in or not.
func TestNoSuchPlace(t *testing.T) {
	for _, n := range []int{0, 1, 5, 254, 255} {
		for _, p := range []int{math.MinInt, math.MinInt32, -256, -1, 0, n + 1, n + 256, n + 257, 256, 257, 511, math.MaxInt32, 1<<32 + 1, math.MaxInt} {
			c := Crew{Table: aSuper(n, 1, 1), Current: upTo(n)}
			for range 2 {
				got, err := c.Without(p)
				notTabled(t, "without", got, err, api.ErrRange)
				got, err = c.With(p)
				notTabled(t, "with", got, err, api.ErrRange)
				for i := range c.Table.In {
					c.Table.In[i] = true
				}
			}
		}
	}
	got, err := Crew{}.With(1)
	notTabled(t, "with", got, err, api.ErrRange)
	got, err = Crew{}.Without(0)
	notTabled(t, "without", got, err, api.ErrRange)
}

// TestThereAndBack: who was left out and let in again is as ahead, two epochs on.
func TestThereAndBack(t *testing.T) {
	c := Crew{Table: aSuper(5, 2, 1)}
	c.Table.Boot = math.MaxUint32
	want := c.Table
	for p := 1; p <= 5; p++ {
		for _, move := range []func(c Crew) (sector.Super, api.Errno){
			func(c Crew) (sector.Super, api.Errno) { return c.Without(p) },
			func(c Crew) (sector.Super, api.Errno) { return c.With(p) },
		} {
			s, err := move(c)
			want.Epoch++
			want.In[p] = !want.In[p]
			tabled(t, "moved", s, err, want)
			c.Table = s
		}
	}
}

// TestLastEpoch: epochs go round, as words of 32 bits do.
func TestLastEpoch(t *testing.T) {
	c := Crew{Table: aSuper(3, 2, 1)}
	c.Table.Epoch = math.MaxUint32
	want := c.Table
	want.Epoch, want.In = 0, these(1, 2)
	got, err := c.Without(3)
	tabled(t, "without", got, err, want)
	c.Table.In = these(1)
	got, err = c.With(2)
	tabled(t, "with", got, err, want)
}

// TestIn: the places that are in.
func TestIn(t *testing.T) {
	r := rand.New(rand.NewSource(5))
	for _, want := range [][]int{nil, {1}, {255}, {0}, {0, 255}, {1, 2, 3}, upTo(255)} {
		if got := In(sector.Super{In: these(want...)}); !slices.Equal(got, want) {
			t.Errorf("%v, not %v", got, want)
		}
	}
	for range 500 {
		s := aSuper(r.Intn(256), r.Intn(256), r.Intn(256))
		var want []int
		for i := range s.In {
			s.In[i] = r.Intn(2) == 0
			if s.In[i] {
				want = append(want, i)
			}
		}
		if got := In(s); !slices.Equal(got, want) {
			t.Fatalf("%v, not %v", got, want)
		}
	}
}

// TestEnough: each number of those that are in, of each n and t, those too that can't be; and which ones they are is all one.
func TestEnough(t *testing.T) {
	r := rand.New(rand.NewSource(6))
	for n := range 12 {
		for threshold := range 14 {
			for k := range 14 {
				want := api.ErrDegraded
				if k >= threshold && k > n/2 {
					want = api.OK
				}
				for range 3 {
					s := aSuper(n, threshold, 1)
					s.In = these(r.Perm(256)[:k]...)
					if got := Enough(s); got != want {
						t.Fatalf("n %d, t %d, %d in: %d, not %d", n, threshold, k, got, want)
					}
				}
			}
		}
	}
}

// TestEnoughEnds: likewise at the greatest n.
func TestEnoughEnds(t *testing.T) {
	for k := range 256 {
		for _, threshold := range []int{0, 1, 127, 128, 129, 254, 255} {
			want := api.ErrDegraded
			if k >= threshold && k >= 128 {
				want = api.OK
			}
			s := aSuper(255, threshold, 1)
			s.In = these(upTo(k)...)
			if got := Enough(s); got != want {
				t.Fatalf("t %d, %d in: %d, not %d", threshold, k, got, want)
			}
		}
	}
	if got := Enough(sector.Super{}); got != api.ErrDegraded {
		t.Error("of nothing:", got)
	}
}

// P16.3

// TestNewest: whoever is current is in by the table, and the table is as new as anyone's.
func TestNewest(t *testing.T) {
	r := rand.New(rand.NewSource(7))
	for range 20000 {
		l := anySupers(r)
		for _, g := range both() {
			c, err := g.call(l)
			if err != api.OK {
				continue
			}
			for _, p := range c.Current {
				if !c.Table.In[p] {
					t.Fatalf("%s: %d is current, and isn't in", g.name, p)
				}
			}
			for _, s := range l {
				if s.Boot > c.Table.Boot || s.Boot == c.Table.Boot && s.Epoch > c.Table.Epoch {
					t.Fatalf("%s: boot %d, epoch %d is newer than %d, %d", g.name, s.Boot, s.Epoch, c.Table.Boot, c.Table.Epoch)
				}
			}
		}
	}
}

// subset: those whose bits are set.
func subset(l []sector.Super, bits int) []sector.Super {
	var out []sector.Super
	for i, s := range l {
		if bits>>i&1 == 1 {
			out = append(out, s)
		}
	}
	return out
}

// TestCommon: each two sets that are gathered have somebody in common, and so have those of them that are current.
func TestCommon(t *testing.T) {
	for n := 1; n <= 7; n++ {
		l := supers(n, 1, upTo(n)...)
		var sets []int
		for bits := range 1 << n {
			set := subset(l, bits)
			c, err := Gather(set)
			if err != api.OK {
				continue
			}
			if len(c.Current) != len(set) {
				t.Fatalf("n %d: %v are current of the set %b", n, c.Current, bits)
			}
			sets = append(sets, bits)
		}
		if len(sets) == 0 {
			t.Fatalf("n %d: nobody is enough", n)
		}
		for _, a := range sets {
			for _, b := range sets {
				if a&b == 0 {
					t.Fatalf("n %d: the sets %b and %b", n, a, b)
				}
			}
		}
	}
}

// TestNeverBack: tables that are put, each to all that are in by it; whoever of more than half is gathered then, it is the last table that is found, and nobody who was left out counts.
func TestNeverBack(t *testing.T) {
	r := rand.New(rand.NewSource(8))
	found := 0
	for range 300 {
		n := 3 + r.Intn(3)
		l := supers(n, 1, upTo(n)...)
		table := l[0]
		for range 12 {
			table = step(r, table)
			for i, s := range l {
				if table.In[s.Place] {
					l[i] = table
					l[i].Place = s.Place
				}
			}
			for bits := range 1 << n {
				c, err := Gather(subset(l, bits))
				if err != api.OK {
					continue
				}
				found++
				c.Table.Place = table.Place
				if c.Table != table {
					t.Fatalf("boot %d, epoch %d, and not %d, %d", c.Table.Boot, c.Table.Epoch, table.Boot, table.Epoch)
				}
			}
		}
	}
	if found < 10000 {
		t.Error("too few are gathered:", found)
	}
}

// step: a table behind another one, that is enough.
func step(r *rand.Rand, table sector.Super) sector.Super {
	c := Crew{Table: table, Current: In(table)}
	p := 1 + r.Intn(int(table.N))
	for _, move := range r.Perm(4) {
		var s sector.Super
		var err api.Errno
		switch move {
		case 0:
			s, err = c.Next()
		case 1:
			s, err = c.Closed()
		case 2:
			s, err = c.Without(p)
		case 3:
			s, err = c.With(p)
		}
		if err == api.OK && Enough(s) == api.OK {
			return s
		}
	}
	return table
}

// TestGivenStays: neither what is handed in nor its spare room is changed.
func TestGivenStays(t *testing.T) {
	r := rand.New(rand.NewSource(9))
	for range 2000 {
		l := anySupers(r)
		room := append(slices.Clone(l), supers(9, 1, 1, 2, 3)...)
		was := slices.Clone(room)
		for _, g := range both() {
			g.call(room[:len(l)])
		}
		if !slices.Equal(room, was) {
			t.Fatal("the supers, or what is behind them, are changed")
		}
	}
	current := []int{5, 3, 3, 1, 77, 78}
	c := Crew{Table: aSuper(5, 2, 1), Current: current[:4]}
	table := c.Table
	c.Next()
	c.Closed()
	c.Without(2)
	c.With(2)
	if c.Table != table || !slices.Equal(current, []int{5, 3, 3, 1, 77, 78}) {
		t.Error("the crew is changed:", current)
	}
}

// TestAnswersNew: what is changed later changes no answer, and no answer another one.
func TestAnswersNew(t *testing.T) {
	for _, g := range both() {
		l := supers(3, 2, 3, 1, 2)
		table := l[1]
		first, _ := g.call(l)
		second, _ := g.call(l)
		clear(first.Current[:cap(first.Current)])
		clear(l)
		if second.Table != table || !slices.Equal(second.Current, []int{1, 2, 3}) {
			t.Errorf("%s: %v", g.name, second.Current)
		}
		places := In(table)
		clear(places[:cap(places)])
		if got := In(table); !slices.Equal(got, []int{1, 2, 3}) {
			t.Errorf("in: %v", got)
		}
		closed, _ := second.Closed()
		clear(second.Current)
		if closed.In != these(1, 2, 3) {
			t.Error("a table shares memory with the crew")
		}
	}
}
