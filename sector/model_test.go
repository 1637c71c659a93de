package sector_test

import (
	"bytes"
	"fmt"
	"math"
	"math/rand"
	"slices"
	"testing"

	"scrutineer/api"
	"scrutineer/sector"
)

// call is a call of a disk: its name, and what it is handed.
type call struct {
	name  string
	i, at int
	b     []byte
	by    uint8
	torn  bool
}

// String tells a call without all of its bytes.
func (c call) String() string {
	front := c.b
	if len(front) > 4 {
		front = front[:4]
	}
	return fmt.Sprintf("%s(%d %d %d*%x %d %v)", c.name, c.i, c.at, len(c.b), front, c.by, c.torn)
}

// told is what a call is answered.
type told struct {
	b   []byte
	err api.Errno
}

// same tells whether two calls were answered the same.
func same(x, y told) bool {
	return bytes.Equal(x.b, y.b) && x.err == y.err
}

// faced is what calls can be told to.
type faced interface {
	Size() int
	Count() int
	Read(i int) ([]byte, api.Errno)
	Write(i int, b []byte) api.Errno
	Sync() api.Errno
	Fuse(n int)
	Fall()
	Back(keep int, torn bool)
	IsOn() bool
	Falls() uint64
	Waits() int
	Spoil(i, at int, by uint8) api.Errno
}

// ask lets a call be answered.
func ask(d faced, c call) told {
	switch c.name {
	case "Read":
		b, e := d.Read(c.i)
		return told{b: b, err: e}
	case "Write":
		return told{err: d.Write(c.i, c.b)}
	case "Sync":
		return told{err: d.Sync()}
	case "Fuse":
		d.Fuse(c.i)
	case "Fall":
		d.Fall()
	case "Back":
		d.Back(c.i, c.torn)
	case "Spoil":
		return told{err: d.Spoil(c.i, c.at, c.by)}
	}
	return told{}
}

// stand is all that can be seen of a disk.
type stand struct {
	size, count, waits int
	on                 bool
	falls              uint64
	reads              []told
}

// seen is how a disk stands.
func seen(d faced) stand {
	s := stand{size: d.Size(), count: d.Count(), waits: d.Waits(), on: d.IsOn(), falls: d.Falls()}
	for i := -1; i <= s.count; i++ {
		b, e := d.Read(i)
		s.reads = append(s.reads, told{b: b, err: e})
	}
	return s
}

// alike tells whether two disks stand the same.
func alike(x, y stand) bool {
	return x.size == y.size && x.count == y.count && x.waits == y.waits && x.on == y.on && x.falls == y.falls &&
		slices.EqualFunc(x.reads, y.reads, same)
}

// model is a disk that keeps each sector that there is, and goes through its writes from the front.
type model struct {
	stays [][]byte
	waits []call
	falls uint64
	off   bool
	// fuse has an item for each call that is done yet, and one at which it falls; none is no fuse.
	fuse []api.Errno
}

// newModel is a model of zeros.
func newModel(size, count int) *model {
	m := &model{stays: make([][]byte, count)}
	for i := range m.stays {
		m.stays[i] = make([]byte, size)
	}
	return m
}

func (m *model) Size() int     { return len(m.stays[0]) }
func (m *model) Count() int    { return len(m.stays) }
func (m *model) IsOn() bool    { return !m.off }
func (m *model) Falls() uint64 { return m.falls }
func (m *model) Waits() int    { return len(m.waits) }

func (m *model) has(i int) bool {
	return 0 <= i && i < len(m.stays)
}

func (m *model) Read(i int) ([]byte, api.Errno) {
	if m.off {
		return nil, api.ErrDown
	}
	if !m.has(i) {
		return nil, api.ErrRange
	}
	b := bytes.Clone(m.stays[i])
	for _, w := range m.waits {
		if w.i == i {
			b = bytes.Clone(w.b)
		}
	}
	return b, api.OK
}

// count counts a call that isn't refused.
func (m *model) count() api.Errno {
	if len(m.fuse) == 0 {
		return api.OK
	}
	e := m.fuse[0]
	m.fuse = m.fuse[1:]
	if e != api.OK {
		m.Fall()
	}
	return e
}

func (m *model) Write(i int, b []byte) api.Errno {
	switch {
	case m.off:
		return api.ErrDown
	case !m.has(i):
		return api.ErrRange
	case len(b) != m.Size():
		return api.ErrForm
	}
	m.waits = append(m.waits, call{i: i, b: bytes.Clone(b)})
	return m.count()
}

func (m *model) Sync() api.Errno {
	if m.off {
		return api.ErrDown
	}
	e := m.count()
	if e == api.OK {
		for _, w := range m.waits {
			m.stays[w.i] = w.b
		}
		m.waits = nil
	}
	return e
}

func (m *model) Fuse(n int) {
	// No row of calls here is longer.
	n = min(max(n, 0), 1000)
	m.fuse = append(make([]api.Errno, n), api.ErrDown)
}

func (m *model) Fall() {
	if !m.off {
		m.off = true
		m.falls++
	}
}

func (m *model) Back(keep int, torn bool) {
	m.Fall()
	for n, w := range m.waits {
		if n >= keep {
			break
		}
		b := w.b
		if torn && (n == keep-1 || n == len(m.waits)-1) {
			half := m.Size() / 2
			b = append(bytes.Clone(b[:half]), m.stays[w.i][half:]...)
		}
		m.stays[w.i] = b
	}
	m.waits, m.fuse, m.off = nil, nil, false
}

func (m *model) Spoil(i, at int, by uint8) api.Errno {
	if !m.has(i) || at < 0 || at >= m.Size() {
		return api.ErrRange
	}
	m.stays[i] = bytes.Clone(m.stays[i])
	m.stays[i][at] ^= by
	return api.OK
}

// holdRow holds that each call of a row is answered as the model answers it, and that the disk stands so behind it.
func holdRow(t *testing.T, size, count int, row []call) {
	t.Helper()
	d, m := made(t, size, count), newModel(size, count)
	for n, c := range row {
		if got, want := ask(d, c), ask(m, c); !same(got, want) {
			t.Fatalf("P12.1: of %d sectors of %d bytes, behind %v, %v: %x, %v, not %x, %v", count, size, row[:n], c, got.b, got.err, want.b, want.err)
		}
	}
	if got, want := seen(d), seen(m); !alike(got, want) {
		t.Fatalf("P12.1: %d sectors of %d bytes are behind %v: %v, not %v", count, size, row, got, want)
	}
}

func TestAllShortRows(t *testing.T) {
	some := []call{
		{name: "Write", i: 0, b: full(64, 'a')},
		{name: "Write", i: 0, b: full(64, 'b')},
		{name: "Write", i: 1, b: full(64, 'c')},
		{name: "Write", i: 2, b: full(64, 'd')},
		{name: "Write", i: 1, b: full(65, 'e')},
		{name: "Sync"},
		{name: "Fuse", i: 0},
		{name: "Fuse", i: 1},
		{name: "Fuse", i: 2},
		{name: "Fall"},
		{name: "Back", i: 0},
		{name: "Back", i: 1},
		{name: "Back", i: 1, torn: true},
		{name: "Back", i: 2, torn: true},
		{name: "Back", i: 9},
		{name: "Spoil", i: 0, at: 3, by: 129},
		{name: "Spoil", i: 1, at: 40, by: 7},
	}
	var extend func(row []call, left int)
	extend = func(row []call, left int) {
		holdRow(t, 64, 2, row)
		if left == 0 {
			return
		}
		for _, c := range some {
			extend(append(row, c), left-1)
		}
	}
	extend(make([]call, 0, 4), 4)
}

// random is some call of a disk.
func random(rnd *rand.Rand, size, count int) call {
	odd := []int{math.MinInt, -1, 0, 1, 2, 3, count - 1, count, size - 1, size, math.MaxInt}
	place := func(many int) int {
		if rnd.Intn(20) == 0 {
			return odd[rnd.Intn(len(odd))]
		}
		return rnd.Intn(many)
	}
	c := call{i: place(count)}
	switch n := rnd.Intn(100); {
	case n < 45:
		c.name = "Write"
		c.b = make([]byte, size)
		if rnd.Intn(20) == 0 {
			c.b = make([]byte, rnd.Intn(2*size))
		}
		rnd.Read(c.b)
	case n < 55:
		c.name = "Sync"
	case n < 70:
		c.name = "Read"
	case n < 76:
		c.name, c.i = "Fuse", place(9)
	case n < 80:
		c.name = "Fall"
	case n < 90:
		c.name, c.i, c.torn = "Back", place(9), rnd.Intn(2) == 0
	default:
		c.name, c.at, c.by = "Spoil", place(size), uint8(rnd.Intn(256))
	}
	return c
}

func TestRandomRows(t *testing.T) {
	rnd := rand.New(rand.NewSource(1))
	for range 6000 {
		size, count := 64+rnd.Intn(449), 1+rnd.Intn(5)
		row := make([]call, rnd.Intn(80))
		for i := range row {
			row[i] = random(rnd, size, count)
		}
		holdRow(t, size, count, row)
	}
}

func TestRowsOfGreatDisks(t *testing.T) {
	rnd := rand.New(rand.NewSource(2))
	for range 20 {
		row := make([]call, 900)
		for i := range row {
			row[i] = random(rnd, 512, 4096)
		}
		holdRow(t, 512, 4096, row)
	}
}

func TestManyWritesWait(t *testing.T) {
	var row []call
	for i := range 10_000 {
		row = append(row, call{name: "Write", i: i % 3, b: full(64, byte(i))})
	}
	for _, c := range []call{{name: "Sync"}, {name: "Back", i: 9001, torn: true}, {name: "Back", i: math.MaxInt}, {name: "Back"}} {
		holdRow(t, 64, 3, append(row[:len(row):len(row)], c))
	}
}

// copied are all sectors of a disk that is on.
func copied(t *testing.T, d *sector.Disk) [][]byte {
	t.Helper()
	var l [][]byte
	for i := range d.Count() {
		b, e := d.Read(i)
		must(t, "Read", e, api.OK)
		l = append(l, bytes.Clone(b))
	}
	return l
}

// unsynced writes some sectors, and lets a disk fall in one of the ways in which it can; it tells what was written to each.
func unsynced(t *testing.T, rnd *rand.Rand, d *sector.Disk) map[int][][]byte {
	t.Helper()
	writes := map[int][][]byte{}
	many := 1 + rnd.Intn(6)
	by := rnd.Intn(4)
	if by == 0 {
		d.Fuse(many - 1)
	} else if by == 1 {
		d.Fuse(many)
	}
	for n := range many {
		i, b := rnd.Intn(d.Count()), make([]byte, d.Size())
		rnd.Read(b)
		want := api.OK
		if by == 0 && n == many-1 {
			want = api.ErrDown
		}
		must(t, "Write", d.Write(i, b), want)
		writes[i] = append(writes[i], b)
	}
	if by == 1 {
		must(t, "Sync behind the fuse", d.Sync(), api.ErrDown)
	} else if by == 2 {
		d.Fall()
	}
	return writes
}

// comesOf tells whether each half of a sector's bytes is as it was synced, or as something that was written to it.
func comesOf(b, synced []byte, writes [][]byte) bool {
	half := len(b) / 2
	front, rest := bytes.Equal(b[:half], synced[:half]), bytes.Equal(b[half:], synced[half:])
	for _, w := range writes {
		front = front || bytes.Equal(b[:half], w[:half])
		rest = rest || bytes.Equal(b[half:], w[half:])
	}
	return front && rest
}

func TestWhatWasSyncedStays(t *testing.T) {
	rnd := rand.New(rand.NewSource(3))
	for range 500 {
		d := made(t, 64+rnd.Intn(449), 1+rnd.Intn(6))
		stays := copied(t, d)
		for range 20 {
			for range rnd.Intn(4) {
				b := make([]byte, d.Size())
				rnd.Read(b)
				must(t, "Write", d.Write(rnd.Intn(d.Count()), b), api.OK)
			}
			synced := stays
			if d.Waits() > 0 {
				synced = copied(t, d)
				must(t, "Sync", d.Sync(), api.OK)
			}
			writes := unsynced(t, rnd, d)
			keep := rnd.Intn(8) - 1
			d.Back(keep, rnd.Intn(2) == 0)
			stays = copied(t, d)
			for i, b := range stays {
				if keep <= 0 && !bytes.Equal(b, synced[i]) {
					t.Fatalf("P12.2: the sector %d was synced, and nothing stayed behind it, but it is %x, not %x", i, b, synced[i])
				}
				if !comesOf(b, synced[i], writes[i]) {
					t.Fatalf("P12.2: the sector %d is %x: neither as it was synced, %x, nor as written", i, b, synced[i])
				}
			}
		}
	}
}
