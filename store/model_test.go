package store_test

import (
	"bytes"
	"fmt"
	"math/rand"
	"slices"
	"testing"

	"scrutineer/api"
	"scrutineer/conf"
	"scrutineer/journal"
	"scrutineer/record"
	"scrutineer/reg"
	"scrutineer/sector"
	"scrutineer/store"
)

// faced is what calls can be told to.
type faced interface {
	Put(r api.Rec) api.Errno
	State() api.State
	Slot(key uint8) api.Slot
	Fence() uint64
	Life() uint32
	Conf() api.Conf
}

// openStore opens a store.
func openStore(d *sector.Disk) (faced, api.Errno) {
	return store.Open(d)
}

// model is a store that keeps records, the eldest ahead, and looks up in these what it knows.
type model struct {
	j    *journal.Journal
	recs []api.Rec
}

// openModel opens a model.
func openModel(d *sector.Disk) (faced, api.Errno) {
	var none *model
	j, l, e := journal.Open(d)
	if e != api.OK {
		return none, e
	}
	m := &model{j: j}
	for _, b := range l {
		r, e := record.Get(b)
		if e != api.OK {
			return none, api.ErrForm
		}
		m.recs = append(m.recs, r)
	}
	return m, api.OK
}

// last is the last record that is so; a zero one, if none is.
func (m *model) last(is func(r api.Rec) bool) api.Rec {
	if m == nil {
		return api.Rec{}
	}
	for _, r := range slices.Backward(m.recs) {
		if is(r) {
			return r
		}
	}
	return api.Rec{}
}

// lastOf is the last record of a kind.
func (m *model) lastOf(kind uint8) api.Rec {
	return m.last(func(r api.Rec) bool { return r.Kind == kind })
}

func (m *model) Life() uint32 {
	return m.lastOf(api.RecLife).Life
}

func (m *model) Conf() api.Conf {
	return m.lastOf(api.RecConf).Conf
}

func (m *model) Fence() uint64 {
	var l []uint64
	m.last(func(r api.Rec) bool {
		l = append(l, r.Fence)
		return false
	})
	return slices.Max(append(l, 0))
}

func (m *model) Slot(key uint8) api.Slot {
	r := m.last(func(r api.Rec) bool { return r.Key == key && (r.Kind == api.RecSlot || r.Kind == api.RecGone) })
	if r.Kind != api.RecSlot {
		return api.Slot{}
	}
	return api.Slot{Has: true, Promise: r.Promise, Acc: r.Acc, Reg: r.Reg}
}

func (m *model) State() api.State {
	s := api.State{Fence: m.Fence(), Life: m.Life(), Conf: m.Conf()}
	for key := range s.Slots {
		s.Slots[key] = m.Slot(uint8(key))
	}
	return s
}

// all are the records to which it is compacted.
func (m *model) all() []api.Rec {
	var l []api.Rec
	if n := m.Fence(); n > 0 {
		l = append(l, fence(n))
	}
	l = append(l, m.lastOf(api.RecLife), m.lastOf(api.RecConf))
	for key := range uint8(api.MaxKeys) {
		if x := m.Slot(key); x.Has {
			l = append(l, api.Rec{Kind: api.RecSlot, Key: key, Promise: x.Promise, Acc: x.Acc, Reg: x.Reg})
		}
	}
	return slices.DeleteFunc(l, func(r api.Rec) bool { return r.Kind == 0 })
}

func (m *model) Put(r api.Rec) api.Errno {
	if m == nil {
		return api.ErrArg
	}
	if !record.May(r) {
		return api.ErrForm
	}
	next := model{recs: append(slices.Clone(m.recs), r)}
	e := m.j.Append(bytesOf(r)[0])
	if e == api.ErrFull {
		next.recs = next.all()
		e = m.j.Compact(bytesOf(next.recs...))
	}
	if e == api.OK {
		m.recs = next.recs
	}
	return e
}

// call is a call of a store, or of its disk: its name, and what it is handed.
type call struct {
	name  string
	rec   api.Rec
	i, at int
	by    uint8
	torn  bool
}

// String tells a call.
func (c call) String() string {
	if c.name == "Put" {
		return fmt.Sprintf("Put(%v)", c.rec)
	}
	return fmt.Sprintf("%s(%d %d %d %v)", c.name, c.i, c.at, c.by, c.torn)
}

// puts are calls that put records.
func puts(l ...api.Rec) []call {
	var row []call
	for _, r := range l {
		row = append(row, call{name: "Put", rec: r})
	}
	return row
}

// bench is a disk, and what was opened on it.
type bench struct {
	d    *sector.Disk
	s    faced
	open func(d *sector.Disk) (faced, api.Errno)
}

// opened is a bench on whose disk a store is open.
func opened(t *testing.T, d *sector.Disk, open func(d *sector.Disk) (faced, api.Errno)) *bench {
	t.Helper()
	b := &bench{d: d, open: open}
	must(t, "Open", b.ask(call{name: "Open"}), api.OK)
	return b
}

// ask lets a call be answered. Whoever spoils a disk opens it anew.
func (b *bench) ask(c call) api.Errno {
	switch c.name {
	case "Put":
		return b.s.Put(c.rec)
	case "Fuse":
		b.d.Fuse(c.i)
		return api.OK
	case "Fall":
		b.d.Fall()
		return api.OK
	case "Back":
		b.d.Back(c.i, c.torn)
		return api.OK
	case "Spoil":
		if e := b.d.Spoil(c.i, c.at, c.by); e != api.OK {
			return e
		}
	}
	s, e := b.open(b.d)
	b.s = s
	return e
}

// sameSlot tells whether two slots are the same.
func sameSlot(x, y api.Slot) bool {
	return x.Has == y.Has && x.Promise == y.Promise && x.Acc == y.Acc && reg.Same(x.Reg, y.Reg)
}

// holdKnows holds that a store knows this, as a whole and part by part.
func holdKnows(t *testing.T, what string, s faced, want api.State) {
	t.Helper()
	if got := s.State(); !record.Same(got, want) {
		t.Fatalf("%s: State: %v, not %v", what, got, want)
	}
	for key := range 256 {
		var x api.Slot
		if key < api.MaxKeys {
			x = want.Slots[key]
		}
		if got := s.Slot(uint8(key)); !sameSlot(got, x) {
			t.Fatalf("%s: Slot of %d: %v, not %v", what, key, got, x)
		}
	}
	if s.Fence() != want.Fence || s.Life() != want.Life || !conf.Same(s.Conf(), want.Conf) {
		t.Fatalf("%s: Fence, Life, Conf: %d, %d, %v, not those of %v", what, s.Fence(), s.Life(), s.Conf(), want)
	}
}

// stand is all that can be seen of a disk.
func stand(d *sector.Disk) string {
	s := fmt.Sprintf("on %v, falls %d, waits %d", d.IsOn(), d.Falls(), d.Waits())
	for i := range d.Count() {
		b, e := d.Read(i)
		s += fmt.Sprintf("\n%d: %x %v", i, bytes.TrimRight(b, "\x00"), e)
	}
	return s
}

// holdAlike holds that behind a row of calls a disk stands as another one.
func holdAlike(t *testing.T, row []call, got, want *sector.Disk) {
	t.Helper()
	if x, y := stand(got), stand(want); x != y {
		t.Fatalf("P15.1: behind %v the disk is\n%s\nnot\n%s", row, x, y)
	}
}

// holdRow holds that on disks of this size each call of a row is answered as the model answers it, and that the store did
// the same to its disk.
func holdRow(t *testing.T, size, count int, row []call) {
	t.Helper()
	got := &bench{d: made(t, size, count), open: openStore}
	want := &bench{d: made(t, size, count), open: openModel}
	for n, c := range append([]call{{name: "Open"}}, row...) {
		if x, y := got.ask(c), want.ask(c); x != y {
			t.Fatalf("P15.1: %d sectors of %d bytes: behind %v, %v: %v, not %v", count, size, row[:max(n-1, 0)], c, x, y)
		}
		if x, y := got.s.State(), want.s.State(); !record.Same(x, y) {
			t.Fatalf("P15.1: %d sectors of %d bytes: behind %v: State: %v, not %v", count, size, row[:n], x, y)
		}
	}
	holdKnows(t, fmt.Sprintf("P15.1: behind %v", row), got.s, want.s.State())
	holdAlike(t, row, got.d, want.d)
	// What waits isn't seen while a disk is down.
	keep := (got.d.Waits() + 1) / 2
	for _, d := range []*sector.Disk{got.d, want.d} {
		d.Back(keep, len(row)%2 == 0)
	}
	holdAlike(t, row, got.d, want.d)
}

func TestAllShortRows(t *testing.T) {
	some := append(puts(promised(0, 5), accepted(0, 7, plain()), gone(0), fence(300), fence(3), life(2), stable(2, 3), gone(16)),
		call{name: "Open"},
		call{name: "Fuse", i: 2},
		call{name: "Fuse", i: 4},
		call{name: "Back", i: 1, torn: true},
		call{name: "Back", i: 9},
		call{name: "Spoil", i: 0, at: 8, by: 1},
	)
	var extend func(row []call, left int)
	extend = func(row []call, left int) {
		if left == 0 {
			// Areas of three sectors, which few records fill.
			holdRow(t, 64, 8, row)
			return
		}
		for _, c := range some {
			extend(append(row, c), left-1)
		}
	}
	extend(make([]call, 0, 4), 4)
}

// randomCall is some call.
func randomCall(rnd *rand.Rand, size, count int) call {
	switch n := rnd.Intn(100); {
	case n < 3:
		all := faults()
		return call{name: "Put", rec: all[rnd.Intn(len(all))]}
	case n < 80:
		return call{name: "Put", rec: random(rnd)}
	case n < 84:
		return call{name: "Open"}
	case n < 90:
		return call{name: "Fuse", i: rnd.Intn(40)}
	case n < 91:
		return call{name: "Fall"}
	case n < 99:
		return call{name: "Back", i: rnd.Intn(9), torn: rnd.Intn(2) == 0}
	}
	return call{name: "Spoil", i: rnd.Intn(count), at: rnd.Intn(size), by: uint8(rnd.Intn(256))}
}

// randomRow is some row of calls; where the disk comes back, it is opened, more often than not.
func randomRow(rnd *rand.Rand, size, count, many int) []call {
	var row []call
	for range many {
		c := randomCall(rnd, size, count)
		row = append(row, c)
		if c.name == "Back" && rnd.Intn(6) > 0 {
			row = append(row, call{name: "Open"})
		}
	}
	return row
}

func TestRandomRows(t *testing.T) {
	rnd := rand.New(rand.NewSource(1))
	for i := range 1500 {
		size, count := 64+rnd.Intn(449), 6+rnd.Intn(60)
		if i%2 == 0 {
			size = 64
		}
		holdRow(t, size, count, randomRow(rnd, size, count, rnd.Intn(100)))
	}
}

func TestRowsOfPuts(t *testing.T) {
	rnd := rand.New(rand.NewSource(2))
	for range 30 {
		size, count := 64+rnd.Intn(449), 30+rnd.Intn(400)
		var l []api.Rec
		for range 400 {
			l = append(l, random(rnd))
		}
		holdRow(t, size, count, puts(l...))
	}
}
