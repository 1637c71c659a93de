package journal_test

import (
	"bytes"
	"fmt"
	"math/rand"
	"slices"
	"testing"

	"scrutineer/api"
	"scrutineer/journal"
	"scrutineer/sector"
)

// call is a call of a journal, or of its disk: its name, and what it is handed.
type call struct {
	name  string
	rec   []byte
	l     [][]byte
	i, at int
	by    uint8
	torn  bool
}

// String tells a call without all of its bytes.
func (c call) String() string {
	switch c.name {
	case "Append", "Takes":
		return fmt.Sprintf("%s of %d bytes", c.name, len(c.rec))
	case "Compact":
		s := "Compact to"
		for _, rec := range c.l {
			s += fmt.Sprintf(" %d", len(rec))
		}
		return s + " bytes"
	case "Fuse":
		return fmt.Sprintf("Fuse(%d)", c.i)
	case "Back":
		return fmt.Sprintf("Back(%d, %v)", c.i, c.torn)
	case "Spoil":
		return fmt.Sprintf("Spoil(%d, %d, %d)", c.i, c.at, c.by)
	}
	return c.name
}

// told is what a call is answered.
type told struct {
	l   [][]byte
	n   int
	err api.Errno
}

// same tells whether two calls were answered the same.
func same(x, y told) bool {
	return sameRecs(x.l, y.l) && x.n == y.n && x.err == y.err
}

// sameRecs tells whether two lists of records are the same.
func sameRecs(x, y [][]byte) bool {
	return slices.EqualFunc(x, y, bytes.Equal)
}

// faced is what calls can be told to.
type faced interface {
	Append(rec []byte) api.Errno
	Compact(l [][]byte) api.Errno
	Room() int
	Takes(rec []byte) int
}

// bench is a disk, and what was opened on it.
type bench struct {
	d    *sector.Disk
	j    faced
	open func(d *sector.Disk) (faced, [][]byte, api.Errno)
}

// openJournal opens a journal.
func openJournal(d *sector.Disk) (faced, [][]byte, api.Errno) {
	return journal.Open(d)
}

// ask lets a call be answered. Whoever spoils a disk opens it anew.
func (b *bench) ask(c call) told {
	switch c.name {
	case "Append":
		return told{err: b.j.Append(c.rec)}
	case "Compact":
		return told{err: b.j.Compact(c.l)}
	case "Room":
		return told{n: b.j.Room()}
	case "Takes":
		return told{n: b.j.Takes(c.rec)}
	case "Fuse":
		b.d.Fuse(c.i)
		return told{}
	case "Fall":
		b.d.Fall()
		return told{}
	case "Back":
		b.d.Back(c.i, c.torn)
		return told{}
	case "Spoil":
		if e := b.d.Spoil(c.i, c.at, c.by); e != api.OK {
			return told{err: e}
		}
	}
	j, l, e := b.open(b.d)
	b.j = j
	return told{l: l, err: e}
}

// model is a journal that keeps all of its records.
type model struct {
	d         *sector.Disk
	turn, gen uint64
	recs      [][]byte
	over      bool
}

// openModel opens a model.
func openModel(d *sector.Disk) (faced, [][]byte, api.Errno) {
	var none *model
	if d == nil || d.Count() < 6 {
		return none, nil, api.ErrArg
	}
	p := picture{size: d.Size()}
	for i := range d.Count() {
		b, e := d.Read(i)
		if e != api.OK {
			return none, nil, e
		}
		p.b = append(p.b, b...)
	}
	turn, gen, recs, ok := p.has()
	if !ok {
		return none, nil, api.ErrSum
	}
	return &model{d: d, turn: turn, gen: gen, recs: recs}, recs, api.OK
}

// frames are the frames of a generation's records, with the zeros behind each.
func (m *model) frames(gen uint64, l [][]byte) []byte {
	var b []byte
	for i, rec := range l {
		b = append(b, filled(recFrame(gen, uint64(i)+1, rec), m.d.Size())...)
	}
	return b
}

func (m *model) Room() int {
	if m == nil {
		return 0
	}
	return areaOf(m.d.Count()) - len(m.frames(m.gen, m.recs))/m.d.Size()
}

func (m *model) Takes(rec []byte) int {
	if m == nil || len(rec) > 2048 {
		return 0
	}
	frames := m.frames(m.gen, append(slices.Clone(m.recs), rec))
	return (len(frames) - len(m.frames(m.gen, m.recs))) / m.d.Size()
}

func (m *model) Append(rec []byte) api.Errno {
	switch {
	case m == nil:
		return api.ErrArg
	case m.over:
		return api.ErrDown
	case len(rec) > 2048:
		return api.ErrLong
	case m.Takes(rec) > m.Room():
		return api.ErrFull
	}
	l := append(slices.Clone(m.recs), bytes.Clone(rec))
	done := len(m.frames(m.gen, m.recs))
	return m.keep(m.gen, l, frontOf(m.gen, m.d.Count())+done/m.d.Size(), m.frames(m.gen, l)[done:])
}

func (m *model) Compact(l [][]byte) api.Errno {
	switch {
	case m == nil:
		return api.ErrArg
	case m.over:
		return api.ErrDown
	}
	var copied [][]byte
	for _, rec := range l {
		if len(rec) > 2048 {
			return api.ErrLong
		}
		copied = append(copied, bytes.Clone(rec))
	}
	all := m.frames(m.gen+1, copied)
	if len(all) > areaOf(m.d.Count())*m.d.Size() {
		return api.ErrFull
	}
	return m.keep(m.gen+1, copied, frontOf(m.gen+1, m.d.Count()), all)
}

// keep does one behind the other what an Append, or a Compact, does to the disk.
func (m *model) keep(gen uint64, l [][]byte, at int, frames []byte) api.Errno {
	size := m.d.Size()
	var do []func() api.Errno
	for ; len(frames) > 0; at++ {
		i, b := at, frames[:size]
		do = append(do, func() api.Errno { return m.d.Write(i, b) })
		frames = frames[size:]
	}
	do = append(do, m.d.Sync)
	for _, turn := range []uint64{m.turn + 1, m.turn + 2} {
		b := filled(sealFrame(turn, gen, uint64(len(l))), size)
		do = append(do, func() api.Errno { return m.d.Write(int(turn%2), b) }, m.d.Sync)
	}
	for _, one := range do {
		if e := one(); e != api.OK {
			m.over = true
			return e
		}
	}
	m.turn, m.gen, m.recs = m.turn+2, gen, l
	return api.OK
}

// stand is all that can be seen of a disk.
func stand(d *sector.Disk) string {
	s := fmt.Sprintf("on %v, falls %d, waits %d", d.IsOn(), d.Falls(), d.Waits())
	for i := range d.Count() {
		b, e := d.Read(i)
		s += fmt.Sprintf("\n%d: %x %v", i, bytes.TrimRight(b, "\x00"), e)
	}
	return s
}

// holdRow holds that on disks of a picture each call of a row is answered as the model answers it, and that the journal did
// the same to its disk.
func holdRow(t *testing.T, p picture, row []call) {
	t.Helper()
	got := &bench{d: p.disk(t), open: openJournal}
	want := &bench{d: p.disk(t), open: openModel}
	for n, c := range append([]call{{name: "Open"}}, row...) {
		x, y := got.ask(c), want.ask(c)
		if !same(x, y) {
			t.Fatalf("P13.1: %d sectors of %d bytes: behind %v, %v: %v, not %v", p.count(), p.size, row[:max(n-1, 0)], c, x, y)
		}
		if got.j.Room() != want.j.Room() {
			t.Fatalf("P13.1: %d sectors of %d bytes: behind %v, Room is %d, not %d", p.count(), p.size, row[:n], got.j.Room(), want.j.Room())
		}
	}
	holdAlike(t, row, got.d, want.d)
	// What waits isn't seen while a disk is down.
	keep := (got.d.Waits() + 1) / 2
	for _, d := range []*sector.Disk{got.d, want.d} {
		d.Back(keep, len(row)%2 == 0)
	}
	holdAlike(t, row, got.d, want.d)
}

// holdAlike holds that behind a row of calls a disk stands as another one.
func holdAlike(t *testing.T, row []call, got, want *sector.Disk) {
	t.Helper()
	if x, y := stand(got), stand(want); x != y {
		t.Fatalf("P13.1: behind %v the disk is\n%s\nnot\n%s", row, x, y)
	}
}

// rep is a record of so many bytes that are all the same.
func rep(n int, c byte) []byte {
	return bytes.Repeat([]byte{c}, n)
}

func TestAllShortRows(t *testing.T) {
	some := []call{
		{name: "Append", rec: rep(3, 'a')},
		{name: "Append", rec: rep(100, 'b')},
		{name: "Append", rec: rep(2049, 'c')},
		{name: "Compact"},
		{name: "Compact", l: [][]byte{rep(5, 'd'), nil}},
		{name: "Compact", l: [][]byte{rep(70, 'e'), rep(1, 'f'), rep(1, 'g')}},
		{name: "Open"},
		{name: "Takes", rec: rep(52, 'h')},
		{name: "Fuse", i: 0},
		{name: "Fuse", i: 1},
		{name: "Fuse", i: 3},
		{name: "Fuse", i: 5},
		{name: "Back", i: 0},
		{name: "Back", i: 1, torn: true},
		{name: "Back", i: 9},
		{name: "Spoil", i: 0, at: 4, by: 1},
		{name: "Spoil", i: 2, at: 9, by: 128},
	}
	var extend func(row []call, left int)
	extend = func(row []call, left int) {
		if left == 0 {
			holdRow(t, blank(64, 8), row)
			return
		}
		for _, c := range some {
			extend(append(row, c), left-1)
		}
	}
	extend(make([]call, 0, 4), 4)
}

// randomRec is some record: short, of some sectors, or at the limits.
func randomRec(rnd *rand.Rand, size int) []byte {
	n := rnd.Intn(size)
	switch rnd.Intn(12) {
	case 0:
		n = 2046 + rnd.Intn(5)
	case 1, 2:
		n = rnd.Intn(4 * size)
	case 3:
		n = 0
	}
	rec := make([]byte, n)
	rnd.Read(rec)
	return rec
}

// randomRecs are some records.
func randomRecs(rnd *rand.Rand, size, most int) [][]byte {
	l := make([][]byte, rnd.Intn(most+1))
	for i := range l {
		l[i] = randomRec(rnd, size)
	}
	return l
}

// randomCall is some call.
func randomCall(rnd *rand.Rand, size, count int) call {
	switch n := rnd.Intn(100); {
	case n < 40:
		return call{name: "Append", rec: randomRec(rnd, size)}
	case n < 54:
		return call{name: "Compact", l: randomRecs(rnd, size, areaOf(count))}
	case n < 62:
		return call{name: "Takes", rec: randomRec(rnd, size)}
	case n < 72:
		return call{name: "Open"}
	case n < 82:
		return call{name: "Fuse", i: rnd.Intn(12)}
	case n < 84:
		return call{name: "Fall"}
	case n < 97:
		return call{name: "Back", i: rnd.Intn(6), torn: rnd.Intn(2) == 0}
	}
	return call{name: "Spoil", i: rnd.Intn(count), at: rnd.Intn(size), by: uint8(rnd.Intn(256))}
}

// randomRow is some row of calls; where the disk comes back, it is opened, more often than not.
func randomRow(rnd *rand.Rand, size, count, many int) []call {
	var row []call
	for range many {
		c := randomCall(rnd, size, count)
		row = append(row, c)
		if c.name == "Back" && rnd.Intn(4) > 0 {
			row = append(row, call{name: "Open"})
		}
	}
	return row
}

func TestRandomRows(t *testing.T) {
	rnd := rand.New(rand.NewSource(1))
	for range 3000 {
		size, count := 64+rnd.Intn(449), 6+rnd.Intn(30)
		if rnd.Intn(2) == 0 {
			size = 64
		}
		holdRow(t, blank(size, count), randomRow(rnd, size, count, rnd.Intn(60)))
	}
}

func TestRowsOnGreatDisks(t *testing.T) {
	rnd := rand.New(rand.NewSource(2))
	for _, size := range []int{64, 300, 512} {
		var row []call
		for range 40 {
			c := randomCall(rnd, size, 1000)
			if c.name != "Spoil" {
				row = append(row, c)
			}
		}
		holdRow(t, blank(size, 4096), row)
	}
}

func TestRowsBehindAnyPicture(t *testing.T) {
	rnd := rand.New(rand.NewSource(3))
	for range 4000 {
		p := randomPicture(rnd)
		holdRow(t, p, randomRow(rnd, p.size, p.count(), rnd.Intn(8)))
	}
}
