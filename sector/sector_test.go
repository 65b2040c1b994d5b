package sector

import (
	"bytes"
	"crypto/sha256"
	"encoding/binary"
	"math"
	"math/rand"
	"slices"
	"testing"

	"largesse/api"
)

// some: so many bytes, any.
func some(r *rand.Rand, n int) []byte {
	b := make([]byte, n)
	for i := range b {
		b[i] = byte(r.Intn(256))
	}
	return b
}

// padded: a sector that begins so.
func padded(begin []byte) []byte {
	return append(bytes.Clone(begin), make([]byte, 512-len(begin))...)
}

// shareBytes: a share's sector, laid out by hand; nothing is held against bounds.
func shareBytes(s Share) []byte {
	b := []byte{76, 83, s.Mode, s.Place}
	b = binary.BigEndian.AppendUint32(b, s.Stripe)
	b = binary.BigEndian.AppendUint64(b, s.Gen)
	b = binary.BigEndian.AppendUint16(b, uint16(len(s.Row)))
	b = append(b, make([]byte, 32-len(b))...)
	return padded(append(b, s.Row...))
}

// superBytes: a super sector, laid out by hand; nothing is held against bounds.
func superBytes(s Super) []byte {
	b := append([]byte{76, 85}, s.Name[:]...)
	b = append(b, s.Place, s.N, s.T, s.Mode, s.C)
	for _, x := range []uint32{s.Blocks, s.Boot, s.Epoch} {
		b = binary.BigEndian.AppendUint32(b, x)
	}
	in := make([]byte, 32)
	for i, is := range s.In {
		if is {
			in[i/8] |= 1 << (7 - i%8)
		}
	}
	b = append(b, in...)
	b = binary.BigEndian.AppendUint32(b, s.Refresh)
	b = binary.BigEndian.AppendUint32(b, s.Scrub)
	b = append(b, s.Target)
	b = binary.BigEndian.AppendUint32(b, s.Resync)
	return summed(padded(b))
}

// summed: a super sector with the sum that it should have.
func summed(b []byte) []byte {
	b = bytes.Clone(b)
	sum := sha256.Sum256(b[:72])
	copy(b[72:80], sum[:8])
	return b
}

// commitBytes: a commit sector, laid out by hand; nothing is held against bounds.
func commitBytes(c Commit) []byte {
	return padded(binary.BigEndian.AppendUint64([]byte{76, 67, c.State, c.Count}, c.Gen))
}

// sameShare: are two shares the same?
func sameShare(a, b Share) bool {
	return a.Mode == b.Mode && a.Place == b.Place && a.Stripe == b.Stripe && a.Gen == b.Gen && bytes.Equal(a.Row, b.Row)
}

// shareStands: that is written so, and parsed.
func shareStands(t *testing.T, s Share) {
	t.Helper()
	b, err := s.Bytes()
	if err != api.OK || !bytes.Equal(b, shareBytes(s)) {
		t.Fatalf("mode %d, place %d, %d bytes: %v, %d", s.Mode, s.Place, len(s.Row), b, err)
	}
	if got, err := ParseShare(b); err != api.OK || !sameShare(got, s) {
		t.Fatalf("%v is parsed as %v, %d", s, got, err)
	}
}

// shareRefused: that can't be written, and isn't parsed when somebody wrote it nevertheless.
func shareRefused(t *testing.T, s Share) {
	t.Helper()
	if b, err := s.Bytes(); b != nil || err != api.ErrRange {
		t.Fatalf("mode %d, place %d, %d bytes: %d bytes, %d", s.Mode, s.Place, len(s.Row), len(b), err)
	}
	if len(s.Row) <= 480 {
		noShare(t, shareBytes(s))
	}
}

// noShare: bytes that aren't a share's sector.
func noShare(t *testing.T, b []byte) {
	t.Helper()
	if s, err := ParseShare(b); err != api.ErrForm || !sameShare(s, Share{}) {
		t.Fatalf("%v, %d is parsed of %v", s, err, b)
	}
}

// superStands: that is written so, and parsed.
func superStands(t *testing.T, s Super) {
	t.Helper()
	b, err := s.Bytes()
	if err != api.OK || !bytes.Equal(b, superBytes(s)) {
		t.Fatalf("%v: %v, %d", s, b, err)
	}
	if got, err := ParseSuper(b); err != api.OK || got != s {
		t.Fatalf("%v is parsed as %v, %d", s, got, err)
	}
}

// superRefused: that can't be written, and isn't parsed when somebody wrote it nevertheless.
func superRefused(t *testing.T, s Super) {
	t.Helper()
	if b, err := s.Bytes(); b != nil || err != api.ErrRange {
		t.Fatalf("%v: %d bytes, %d", s, len(b), err)
	}
	noSuper(t, superBytes(s))
}

// noSuper: bytes that aren't a super sector.
func noSuper(t *testing.T, b []byte) {
	t.Helper()
	if s, err := ParseSuper(b); err != api.ErrForm || s != (Super{}) {
		t.Fatalf("%v, %d is parsed of %v", s, err, b)
	}
}

// noCommit: bytes that aren't a commit sector.
func noCommit(t *testing.T, b []byte) {
	t.Helper()
	if c, err := ParseCommit(b); err != api.ErrForm || c != (Commit{}) {
		t.Fatalf("%v, %d is parsed of %v", c, err, b)
	}
}

// aShare: one with something everywhere.
func aShare() Share {
	return Share{Mode: 1, Place: 7, Stripe: 0x01020304, Gen: 0x05060708090a0b0c, Row: []byte("a row of bytes")}
}

// aSuper: one with something everywhere.
func aSuper() Super {
	s := Super{Name: [8]byte{'l', 'a', 'r', 'g', 'e', 's', 's', 'e'}, Place: 2, N: 10, T: 3, Mode: 1, C: 4,
		Blocks: 0x0201, Boot: 0x11121314, Epoch: 0x21222324, Refresh: 0x0102, Scrub: 0x0103, Target: 5, Resync: 0x0104}
	s.In[1], s.In[2], s.In[10] = true, true, true
	return s
}

// anyShare: one that may be.
func anyShare(r *rand.Rand) Share {
	return Share{Mode: byte(r.Intn(2)), Place: byte(1 + r.Intn(255)), Stripe: r.Uint32(), Gen: r.Uint64(), Row: some(r, r.Intn(481))}
}

// anySuper: one that may be.
func anySuper(r *rand.Rand) Super {
	n := 1 + r.Intn(255)
	s := Super{Place: byte(1 + r.Intn(n)), N: byte(n), T: byte(1 + r.Intn(n)), Mode: byte(r.Intn(2)), C: byte(r.Intn(128)),
		Blocks: uint32(1 + r.Intn(1024)), Boot: r.Uint32(), Epoch: r.Uint32(), Target: byte(r.Intn(n + 1))}
	copy(s.Name[:], some(r, 8))
	for i := 1; i <= n; i++ {
		s.In[i] = r.Intn(2) == 1
	}
	s.Refresh, s.Scrub, s.Resync = uint32(r.Intn(int(s.Blocks)+2)), uint32(r.Intn(int(s.Blocks)+2)), uint32(r.Intn(int(s.Blocks)+2))
	return s
}

// anyCommit: one that may be.
func anyCommit(r *rand.Rand) Commit {
	return Commit{State: byte(r.Intn(3)), Count: byte(r.Intn(17)), Gen: r.Uint64()}
}

// P14.1: a share's sector

// TestShareBytes: byte by byte, written out.
func TestShareBytes(t *testing.T) {
	b, err := aShare().Bytes()
	want := append([]byte{'L', 'S', 1, 7, 1, 2, 3, 4, 5, 6, 7, 8, 9, 10, 11, 12, 0, 14, 0, 0, 0, 0, 0, 0, 0, 0, 0, 0, 0, 0, 0, 0}, "a row of bytes"...)
	if err != api.OK || !bytes.Equal(b, padded(want)) {
		t.Error(b, err)
	}
}

func TestShareBounds(t *testing.T) {
	row := some(rand.New(rand.NewSource(1)), 1<<17)
	for _, mode := range []byte{0, 1, 2, 3, 128, 255} {
		for _, place := range []byte{0, 1, 2, 127, 128, 254, 255} {
			for _, size := range []int{0, 1, 2, 255, 256, 257, 479, 480, 481, 512, 65535, 65536, 65537, 1 << 17} {
				s := Share{Mode: mode, Place: place, Stripe: 5, Gen: 6, Row: row[:size]}
				if mode < 2 && place > 0 && size <= 480 {
					shareStands(t, s)
				} else {
					shareRefused(t, s)
				}
			}
		}
	}
	for _, stripe := range []uint32{0, 1, 255, 256, 1024, 1 << 31, math.MaxUint32} {
		for _, gen := range []uint64{0, 1, 255, 256, 1 << 32, 1 << 63, math.MaxUint64} {
			shareStands(t, Share{Place: 1, Stripe: stripe, Gen: gen})
		}
	}
}

// TestShareParsed: each byte of a sector, made each other one there is.
func TestShareParsed(t *testing.T) {
	s := aShare()
	for at := range 512 {
		for x := range 256 {
			b := shareBytes(s)
			b[at] = byte(x)
			want := s
			fits := false
			switch {
			case at < 2 || at >= 18 && at < 32 || at >= 46:
				fits = b[at] == shareBytes(s)[at]
			case at == 2:
				want.Mode, fits = byte(x), x < 2
			case at == 3:
				want.Place, fits = byte(x), x > 0
			case at < 8:
				want.Stripe, fits = binary.BigEndian.Uint32(b[4:]), true
			case at < 16:
				want.Gen, fits = binary.BigEndian.Uint64(b[8:]), true
			case at < 18:
				size := int(binary.BigEndian.Uint16(b[16:]))
				if fits = size >= 14 && size <= 480; fits {
					want.Row = b[32 : 32+size]
				}
			default:
				want.Row, fits = b[32:46], true
			}
			if !fits {
				noShare(t, b)
			} else if got, err := ParseShare(b); err != api.OK || !sameShare(got, want) {
				t.Fatalf("byte %d is %d: %v, %d", at, x, got, err)
			}
		}
	}
}

// TestShareSizes: any number where the row's size stands, with rows of noughts and without.
func TestShareSizes(t *testing.T) {
	full := shareBytes(Share{Place: 1, Row: bytes.Repeat([]byte{9}, 480)})
	none := shareBytes(Share{Place: 1})
	for size := range 1 << 16 {
		for _, begin := range [][]byte{full, none} {
			b := bytes.Clone(begin)
			binary.BigEndian.PutUint16(b[16:], uint16(size))
			fits := size == 480 || size < 480 && begin[32] == 0
			if !fits {
				noShare(t, b)
			} else if got, err := ParseShare(b); err != api.OK || !bytes.Equal(got.Row, b[32:32+size]) {
				t.Fatalf("size %d: %d bytes, %d", size, len(got.Row), err)
			}
		}
	}
}

// P14.1: a super sector

// TestSuperBytes: byte by byte, written out.
func TestSuperBytes(t *testing.T) {
	b, err := aSuper().Bytes()
	want := append([]byte("LUlargesse"), 2, 10, 3, 1, 4, 0, 0, 2, 1, 0x11, 0x12, 0x13, 0x14, 0x21, 0x22, 0x23, 0x24, 0x60, 0x20)
	want = append(want, make([]byte, 30)...)
	want = append(want, 0, 0, 1, 2, 0, 0, 1, 3, 5, 0, 0, 1, 4)
	sum := sha256.Sum256(want)
	want = append(want, sum[:8]...)
	if err != api.OK || len(want) != 80 || !bytes.Equal(b, padded(want)) {
		t.Error(b, err)
	}
}

// TestSuperCounts: all of place, n and t at their ends, and about them.
func TestSuperCounts(t *testing.T) {
	some := []byte{0, 1, 2, 3, 4, 127, 128, 253, 254, 255}
	for _, n := range some {
		for _, place := range some {
			for _, threshold := range some {
				for _, target := range some {
					s := Super{Place: place, N: n, T: threshold, Blocks: 1, Target: target}
					if n > 0 && place > 0 && place <= n && threshold > 0 && threshold <= n && target <= n {
						superStands(t, s)
					} else {
						superRefused(t, s)
					}
				}
			}
		}
	}
}

func TestSuperModes(t *testing.T) {
	for x := range 256 {
		s := aSuper()
		s.Mode = byte(x)
		if x < 2 {
			superStands(t, s)
		} else {
			superRefused(t, s)
		}
		s = aSuper()
		s.C = byte(x)
		if x < 128 {
			superStands(t, s)
		} else {
			superRefused(t, s)
		}
	}
}

func TestSuperBlocks(t *testing.T) {
	for _, blocks := range []uint32{0, 1, 2, 1023, 1024, 1025, 65536, 65537, 1 << 24, 1 << 31, math.MaxUint32 - 1, math.MaxUint32} {
		s := Super{Place: 1, N: 1, T: 1, Blocks: blocks}
		if blocks >= 1 && blocks <= 1024 {
			superStands(t, s)
		} else {
			superRefused(t, s)
		}
	}
}

// TestSuperCursors: each of the three, with so many blocks.
func TestSuperCursors(t *testing.T) {
	for _, blocks := range []uint32{1, 2, 255, 256, 1024} {
		for _, at := range []uint32{0, 1, blocks - 1, blocks, blocks + 1, blocks + 2, 1 << 16, 1 << 31, math.MaxUint32} {
			for which := range 3 {
				s := Super{Place: 1, N: 2, T: 1, Blocks: blocks}
				*[]*uint32{&s.Refresh, &s.Scrub, &s.Resync}[which] = at
				if at <= blocks+1 {
					superStands(t, s)
				} else {
					superRefused(t, s)
				}
			}
		}
	}
}

// TestSuperIn: each place alone, of any number of members.
func TestSuperIn(t *testing.T) {
	for _, n := range []byte{1, 2, 7, 8, 9, 128, 254, 255} {
		all := Super{Place: 1, N: n, T: 1, Blocks: 1}
		for i := range 256 {
			s := Super{Place: 1, N: n, T: 1, Blocks: 1}
			s.In[i] = true
			if i >= 1 && i <= int(n) {
				superStands(t, s)
				all.In[i] = true
			} else {
				superRefused(t, s)
			}
		}
		superStands(t, all)
		all.In[0] = true
		superRefused(t, all)
	}
}

// TestSuperNumbers: what has no bounds.
func TestSuperNumbers(t *testing.T) {
	for _, x := range []uint32{0, 1, 255, 256, 1 << 16, 1 << 31, 1<<31 + 1, math.MaxUint32} {
		s := aSuper()
		s.Boot = x
		superStands(t, s)
		s.Epoch = math.MaxUint32 - x
		superStands(t, s)
	}
	s := aSuper()
	s.Name = [8]byte{}
	superStands(t, s)
	s.Name = [8]byte{255, 0, 255, 0, 255, 0, 255, 1}
	superStands(t, s)
}

// TestSuperParsed: no byte of a sector can be made another one, but for the sum; and none behind it.
func TestSuperParsed(t *testing.T) {
	b := superBytes(aSuper())
	for at := range 512 {
		for x := range 256 {
			c := bytes.Clone(b)
			c[at] = byte(x)
			if c[at] != b[at] {
				noSuper(t, c)
			}
			if at < 2 && c[at] != b[at] || at >= 80 && x > 0 {
				noSuper(t, summed(c))
			}
		}
	}
}

// TestSuperOtherSums: of more than there is, and of less.
func TestSuperOtherSums(t *testing.T) {
	b := superBytes(aSuper())
	for from := range 4 {
		for to := range 513 {
			c := bytes.Clone(b)
			sum := sha256.Sum256(c[from:max(from, to)])
			copy(c[72:80], sum[:])
			if !bytes.Equal(c, b) {
				noSuper(t, c)
			} else if from != 0 || to != 72 {
				t.Fatalf("the same sum of %d to %d", from, to)
			}
		}
	}
	// All of the sum, not its first bytes alone.
	sum := sha256.Sum256(b[:72])
	copy(b[72:], sum[:])
	noSuper(t, b)
}

// P14.1: a commit sector

func TestCommitExample(t *testing.T) {
	b, err := Commit{State: 1, Count: 2, Gen: 3}.Bytes()
	if err != api.OK || !bytes.Equal(b, padded([]byte{76, 67, 1, 2, 0, 0, 0, 0, 0, 0, 0, 3})) {
		t.Error(b, err)
	}
	if c, err := ParseCommit(b); err != api.OK || c != (Commit{State: 1, Count: 2, Gen: 3}) {
		t.Error(c, err)
	}
}

// TestCommitBounds: all states and numbers there are.
func TestCommitBounds(t *testing.T) {
	for state := range 256 {
		for count := range 256 {
			for _, gen := range []uint64{0, 1, 0x0102030405060708, math.MaxUint64} {
				c := Commit{State: byte(state), Count: byte(count), Gen: gen}
				b, err := c.Bytes()
				if state >= 3 || count > 16 {
					if b != nil || err != api.ErrRange {
						t.Fatalf("%v: %v, %d", c, b, err)
					}
					noCommit(t, commitBytes(c))
					continue
				}
				if err != api.OK || !bytes.Equal(b, commitBytes(c)) {
					t.Fatalf("%v: %v, %d", c, b, err)
				}
				if got, err := ParseCommit(b); err != api.OK || got != c {
					t.Fatalf("%v is parsed as %v, %d", c, got, err)
				}
			}
		}
	}
}

// TestCommitParsed: each byte of a sector, made each other one there is.
func TestCommitParsed(t *testing.T) {
	c := Commit{State: 1, Count: 2, Gen: 0x0102030405060708}
	for at := range 512 {
		for x := range 256 {
			b := commitBytes(c)
			was := b[at]
			b[at] = byte(x)
			want := Commit{State: b[2], Count: b[3], Gen: binary.BigEndian.Uint64(b[4:])}
			if (at < 2 || at >= 12) && b[at] != was || want.State >= 3 || want.Count > 16 {
				noCommit(t, b)
			} else if got, err := ParseCommit(b); err != api.OK || got != want {
				t.Fatalf("byte %d is %d: %v, %d", at, x, got, err)
			}
		}
	}
}

// P14.1: what isn't such a sector

// TestOtherLengths: a byte less or more, and many, is no sector.
func TestOtherLengths(t *testing.T) {
	share, super, commit := shareBytes(aShare()), superBytes(aSuper()), commitBytes(Commit{State: 2})
	for n := range 512 {
		noShare(t, share[:n])
		noSuper(t, super[:n])
		noCommit(t, commit[:n])
	}
	for _, more := range []int{1, 2, 512, 1024, 1 << 16} {
		behind := make([]byte, more)
		noShare(t, append(bytes.Clone(share), behind...))
		noSuper(t, append(bytes.Clone(super), behind...))
		noCommit(t, append(bytes.Clone(commit), behind...))
	}
	noShare(t, nil)
	noSuper(t, nil)
	noCommit(t, nil)
}

// TestOtherKinds: each is parsed as what it is, and as nothing else.
func TestOtherKinds(t *testing.T) {
	share, super, commit := shareBytes(aShare()), superBytes(aSuper()), commitBytes(Commit{State: 2})
	blank := make([]byte, 512)
	for _, b := range [][]byte{super, commit, blank} {
		noShare(t, b)
	}
	for _, b := range [][]byte{share, commit, blank, summed(share), summed(commit), summed(blank)} {
		noSuper(t, b)
	}
	for _, b := range [][]byte{share, super, blank} {
		noCommit(t, b)
	}
	r := rand.New(rand.NewSource(2))
	for range 1000 {
		b := some(r, 512)
		noShare(t, b)
		noSuper(t, b)
		noCommit(t, b)
	}
}

func TestNothingSaid(t *testing.T) {
	shareRefused(t, Share{})
	superRefused(t, Super{})
	if b, err := (Commit{}).Bytes(); err != api.OK || !bytes.Equal(b, padded([]byte("LC"))) {
		t.Error(b, err)
	}
}

func TestBlank(t *testing.T) {
	for _, n := range []int{0, 1, 2, 7, 8, 9, 511, 512, 513, 4096} {
		b := make([]byte, n)
		if !Blank(b) {
			t.Errorf("%d noughts aren't blank", n)
		}
		for i := range b {
			for _, x := range []byte{1, 128, 255} {
				b[i] = x
				if Blank(b) {
					t.Fatalf("byte %d of %d is %d: it is blank", i, n, x)
				}
			}
			b[i] = 0
		}
	}
	if !Blank(nil) {
		t.Error("nothing isn't blank")
	}
	hidden := []byte{0, 0, 9}
	if !Blank(hidden[:2]) {
		t.Error("what is behind is looked at")
	}
}

// P14.2

// TestThereAndBack: what is written is parsed, and written again as it was.
func TestThereAndBack(t *testing.T) {
	r := rand.New(rand.NewSource(3))
	for range 3000 {
		shareStands(t, anyShare(r))
		superStands(t, anySuper(r))
		c := anyCommit(r)
		b, err := c.Bytes()
		if got, parsed := ParseCommit(b); err != api.OK || parsed != api.OK || got != c {
			t.Fatalf("%v is parsed as %v, %d, %d", c, got, err, parsed)
		}
	}
}

// TestBackAndThere: sectors with something spoilt, that are parsed, are written again as they were.
func TestBackAndThere(t *testing.T) {
	r := rand.New(rand.NewSource(4))
	parsed := [3]int{}
	for range 20000 {
		b := [][]byte{shareBytes(anyShare(r)), superBytes(anySuper(r)), commitBytes(anyCommit(r))}[r.Intn(3)]
		for range r.Intn(3) {
			b[r.Intn(100)] = byte(r.Intn(256) * r.Intn(2))
		}
		if r.Intn(2) == 0 && b[1] == 'U' {
			b = summed(b)
		}
		for kind, again := range again(b) {
			if again == nil {
				continue
			}
			parsed[kind]++
			if !bytes.Equal(again, b) {
				t.Fatalf("%v is written as %v", b, again)
			}
		}
	}
	if slices.Min(parsed[:]) < 1000 {
		t.Error("too few are parsed:", parsed)
	}
}

// again: bytes, parsed as each kind and written; nil where they aren't of it.
func again(b []byte) [3][]byte {
	out := [3][]byte{}
	if s, err := ParseShare(b); err == api.OK {
		out[0], _ = s.Bytes()
	}
	if s, err := ParseSuper(b); err == api.OK {
		out[1], _ = s.Bytes()
	}
	if c, err := ParseCommit(b); err == api.OK {
		out[2], _ = c.Bytes()
	}
	return out
}

// TestNothingChanged: neither what is handed in nor its spare room.
func TestNothingChanged(t *testing.T) {
	r := rand.New(rand.NewSource(5))
	for range 200 {
		s := anyShare(r)
		room := append(bytes.Clone(s.Row), some(r, 1000)...)
		was := bytes.Clone(room)
		s.Row = room[:len(s.Row)]
		s.Bytes()
		s.Place = 0
		s.Bytes()
		if !bytes.Equal(room, was) {
			t.Fatal("the row, or what is behind it, is changed")
		}
		for _, b := range [][]byte{shareBytes(anyShare(r)), superBytes(anySuper(r)), commitBytes(anyCommit(r)), some(r, 512), make([]byte, 512)} {
			room := append(b, some(r, 1000)...)
			was := bytes.Clone(room)
			again(room[:512])
			Blank(room[:512])
			if !bytes.Equal(room, was) {
				t.Fatal("a sector, or what is behind it, is changed")
			}
		}
	}
}

// TestNothingKept: what is changed later changes no answer, and no answer another one.
func TestNothingKept(t *testing.T) {
	r := rand.New(rand.NewSource(6))
	for range 200 {
		s := anyShare(r)
		want := shareBytes(s)
		first, _ := s.Bytes()
		second, _ := s.Bytes()
		clear(s.Row)
		spoil(first)
		if !bytes.Equal(second, want) {
			t.Fatal("a written share shares memory")
		}
		one, _ := ParseShare(want)
		other, _ := ParseShare(want)
		row := bytes.Clone(other.Row)
		spoil(one.Row)
		if !bytes.Equal(other.Row, row) {
			t.Fatal("two parsed shares share memory")
		}
		spoil(want)
		if !bytes.Equal(other.Row, row) {
			t.Fatal("a parsed share shares memory with its sector")
		}
		u, c := anySuper(r), anyCommit(r)
		for _, write := range []func() ([]byte, api.Errno){u.Bytes, c.Bytes} {
			first, _ := write()
			want := bytes.Clone(first)
			spoil(first)
			if second, _ := write(); !bytes.Equal(second, want) {
				t.Fatal("a written sector shares memory")
			}
		}
	}
}

// spoil: other bytes, up to the end of the room.
func spoil(b []byte) {
	b = b[:cap(b)]
	for i := range b {
		b[i] ^= 0xa5
	}
}
