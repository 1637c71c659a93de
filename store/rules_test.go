package store_test

import (
	"bytes"
	"fmt"
	"math/rand"
	"slices"
	"testing"

	"scrutineer/api"
	"scrutineer/journal"
	"scrutineer/record"
	"scrutineer/reg"
	"scrutineer/sector"
	"scrutineer/store"
)

// noPanic tells of a panic.
func noPanic(t *testing.T) {
	t.Helper()
	if p := recover(); p != nil {
		t.Errorf("P0.1: a call panics: %v", p)
	}
}

// askParts calls all that tells what is known.
func askParts(s *store.Store) {
	s.State()
	for key := range 256 {
		s.Slot(uint8(key))
	}
	s.Fence()
	s.Life()
	s.Conf()
}

// longRecs are records with lists of so many parts.
func longRecs(n int) []api.Rec {
	l := []api.Rec{
		{Kind: api.RecConf, Conf: api.Conf{New: make([]uint8, n)}},
		{Kind: api.RecConf, Conf: api.Conf{C: 1, Old: bytes.Repeat([]byte{255}, n), New: make([]uint8, n)}},
	}
	for _, r := range []api.Reg{
		{Vars: make([]int64, n)},
		{Done: make([]api.Done, n)},
		{Out: make([]api.Cell, n)},
		{Marks: make([]api.Mark, n)},
		{Done: []api.Done{{Client: 1, Seq: 1, Reply: api.Reply{Vars: make([]int64, n)}}}},
	} {
		r.Kind, r.Inc = api.Live, 1
		l = append(l, accepted(3, 9, r))
	}
	return l
}

func TestEveryCallEnds(t *testing.T) {
	defer noPanic(t)
	var none *store.Store
	askParts(none)
	for _, count := range []int{6, 7, 4096} {
		d := made(t, 64, count)
		s, _ := store.Open(d)
		for _, l := range [][]api.Rec{some(), faults(), longRecs(0), longRecs(1), longRecs(9), longRecs(65), longRecs(100_000)} {
			for _, r := range l {
				s.Put(r)
				none.Put(r)
			}
			askParts(s)
		}
		d.Fall()
		askParts(s)
		s.Put(life(1))
		s.Put(life(1))
		askParts(s)
		store.Open(d)
	}
	for kind := range 256 {
		d := made(t, 64, 6)
		s, _ := store.Open(d)
		for key := range 256 {
			s.Put(api.Rec{Kind: uint8(kind), Key: uint8(key)})
			s.Put(api.Rec{Kind: uint8(kind), Key: uint8(key), Promise: under(1, 1, 1), Fence: 1, Life: 1})
		}
		askParts(s)
	}
	store.Open(nil)
	store.Open(&sector.Disk{})
}

func TestOpenOfAnyBytesEnds(t *testing.T) {
	defer noPanic(t)
	rnd := rand.New(rand.NewSource(6))
	for range 3000 {
		var l [][]byte
		want := api.OK
		for range 1 + rnd.Intn(4) {
			b := bytesOf(random(rnd))[0]
			for range rnd.Intn(2) {
				b[rnd.Intn(len(b))] = byte(rnd.Intn(256))
			}
			if _, e := record.Get(b); e != api.OK {
				want = api.ErrForm
			}
			l = append(l, b)
		}
		d := laid(t, 64, 300, l...)
		s, e := store.Open(d)
		if e != want || (s == nil) != (want != api.OK) {
			t.Fatalf("P15.1: Open of %x: %v, not %v", l, e, want)
		}
		s.Put(random(rnd))
		askParts(s)
		// Nor does it matter what stands anywhere else.
		for range 1 + rnd.Intn(5) {
			must(t, "Spoil", d.Spoil(rnd.Intn(d.Count()), rnd.Intn(64), uint8(rnd.Intn(256))), api.OK)
		}
		s, _ = store.Open(d)
		s.Put(random(rnd))
		askParts(s)
	}
}

func TestErrorsStandInOrder(t *testing.T) {
	// A record that may not be, for which there would be no room, and a disk that is down.
	d, s := full(t, 2)
	putAll(t, s, promised(0, 1))
	bad := accepted(0, 9, largest())
	bad.Fence = 1
	must(t, "P0.2: Put of what may not be, without room", s.Put(bad), api.ErrForm)
	bad.Fence = 0
	must(t, "P0.2: Put without room", s.Put(bad), api.ErrFull)
	d.Fall()
	must(t, "P0.2: Put of what may not be, of a disk that is down", s.Put(faults()[0]), api.ErrForm)
	// Without room nothing is asked of the disk.
	must(t, "P0.2: Put without room, of a disk that is down", s.Put(bad), api.ErrFull)
	must(t, "P0.2: Put to a disk that is down", s.Put(promised(0, 2)), api.ErrDown)
	must(t, "P0.2: Put without room, behind an error of the disk", s.Put(bad), api.ErrDown)
	d.Back(0, false)
	storeOn(t, "P0.2: behind errors", d, s.State())
}

// wipe writes zeros into a list, and into the room behind its end.
func wipe[T any](l []T) {
	clear(l[:cap(l)])
}

// wipeReg writes zeros into all lists of a register.
func wipeReg(r api.Reg) {
	for _, d := range r.Done {
		wipe(d.Reply.Vars)
	}
	wipe(r.Done)
	wipe(r.Vars)
	wipe(r.Out)
	wipe(r.Marks)
}

// wipeRec writes zeros into all lists of a record.
func wipeRec(r api.Rec) {
	wipeReg(r.Reg)
	wipe(r.Conf.Old)
	wipe(r.Conf.New)
}

// wipeState writes zeros into all lists of what is known.
func wipeState(s api.State) {
	for _, x := range s.Slots {
		wipeReg(x.Reg)
	}
	wipe(s.Conf.Old)
	wipe(s.Conf.New)
}

// roomy is a list in new memory, never nil, with room behind its end, where something stands.
func roomy[T any](l []T, behind T) []T {
	return append(append(make([]T, 0, len(l)+2), l...), behind)[:len(l)]
}

// roomyRec is the same record in new memory, with room behind each list.
func roomyRec(r api.Rec) api.Rec {
	r.Reg.Vars = roomy(r.Reg.Vars, 77)
	r.Reg.Done = roomy(r.Reg.Done, api.Done{Client: 77})
	for i := range r.Reg.Done {
		vars := &r.Reg.Done[i].Reply.Vars
		*vars = roomy(*vars, 77)
	}
	r.Reg.Out = roomy(r.Reg.Out, api.Cell{N: 77})
	r.Reg.Marks = roomy(r.Reg.Marks, api.Mark{Inc: 77})
	r.Conf.Old = roomy(r.Conf.Old, 77)
	r.Conf.New = roomy(r.Conf.New, 77)
	return r
}

// whole tells a record, and what stands in the room behind its lists.
func whole(r api.Rec) string {
	x, c := r.Reg, r.Conf
	s := fmt.Sprint(r, x.Vars[:cap(x.Vars)], x.Done[:cap(x.Done)], x.Out[:cap(x.Out)], x.Marks[:cap(x.Marks)], c.Old[:cap(c.Old)], c.New[:cap(c.New)])
	for _, d := range x.Done {
		s += fmt.Sprint(d.Reply.Vars[:cap(d.Reply.Vars)])
	}
	return s
}

// compacted puts lives till a store is compacted, and opens it anew: what it knew, with the last one of these.
func compacted(t *testing.T, d *sector.Disk, s *store.Store, knew api.State) {
	t.Helper()
	for n := range uint32(40) {
		putAll(t, s, life(n+1))
	}
	knew.Life = 40
	holdKnows(t, "P0.3: compacted", s, knew)
	storeOn(t, "P0.3: compacted, opened anew", d, knew)
}

func TestWhatIsHandedInIsNeitherChangedNorKept(t *testing.T) {
	for _, r := range []api.Rec{accepted(3, 9, plain()), accepted(0, 9, tomb()), largestSlot(15), between(), stable(2, allNodes()...)} {
		for _, count := range []int{6, 80} {
			d := made(t, 64, count)
			s := storeOn(t, "P0.3", d, api.State{})
			want := record.Fold(api.State{}, r)
			in := roomyRec(r)
			was := whole(in)
			e := s.Put(in)
			if count == 6 && e == api.OK {
				e = s.Put(in)
			}
			if whole(in) != was {
				t.Fatalf("P0.3: Put of %v changes it, or the room behind its lists: %s, not %s", r, whole(in), was)
			}
			wipeRec(in)
			if e == api.OK {
				holdKnows(t, "P0.3: what was handed in is another one now", s, want)
				storeOn(t, "P0.3: opened anew", d, want)
			}
			if count > 6 {
				must(t, "P0.3: Put", e, api.OK)
				compacted(t, d, s, want)
			}
		}
	}
}

// known is a store that knows something of all, and what that is, in memory of its own.
func known(t *testing.T) (*sector.Disk, *store.Store, api.State) {
	t.Helper()
	d := made(t, 64, 60)
	s := storeOn(t, "P0.3", d, api.State{})
	l := []api.Rec{fence(300), life(9), between(), accepted(0, 5, tomb()), accepted(3, 9, plain()), accepted(15, 9, plain())}
	putAll(t, s, l...)
	var knew api.State
	for _, r := range l {
		knew = record.Fold(knew, r)
	}
	return d, s, knew
}

func TestAnswersAreNewMemory(t *testing.T) {
	d, s, knew := known(t)
	for range 2 {
		all, slot, c := s.State(), s.Slot(3), s.Conf()
		wipeState(s.State())
		wipeReg(s.Slot(3).Reg)
		other := s.Conf()
		wipe(other.Old)
		wipe(other.New)
		if !record.Same(all, knew) || !sameSlot(slot, knew.Slots[3]) || !slices.Equal(c.Old, knew.Conf.Old) || !slices.Equal(c.New, knew.Conf.New) {
			t.Fatalf("P0.3: two answers share memory: %v, %v, %v", all, slot, c)
		}
		holdKnows(t, "P0.3: who writes into answers", s, knew)
		storeOn(t, "P0.3: who writes into answers, opened anew", d, knew)
		wipeState(all)
		wipeReg(slot.Reg)
		wipe(c.Old)
		wipe(c.New)
		holdKnows(t, "P0.3: who writes into answers", s, knew)
		// The same of a store that took what it knows from its disk.
		s, _ = store.Open(d)
	}
	compacted(t, d, s, knew)
}

func TestLaterCallsChangeNoAnswer(t *testing.T) {
	d, s, knew := known(t)
	all, slot, c := s.State(), s.Slot(3), s.Conf()
	r := plain()
	r.Vars[0], r.Done[0].Reply.Vars[0], r.Out[0].N, r.Marks[0].Inc = 1, 1, 1, 1
	for n := range uint64(40) {
		putAll(t, s, accepted(3, 10+n, r), accepted(15, 10+n, r), stable(8+2*n, 1, 2, 3))
	}
	store.Open(d)
	if !record.Same(all, knew) || !sameSlot(slot, knew.Slots[3]) || c.C != 7 || !slices.Equal(c.New, knew.Conf.New) {
		t.Fatalf("P0.3: later calls change answers: %v, %v, %v", all, slot, c)
	}
}

func TestListsOfOneAnswerShareNothing(t *testing.T) {
	// What is handed in has the same memory in many places.
	vars := []int64{1, 2}
	r := plain()
	r.Vars = vars
	r.Done = []api.Done{{Client: 1, Seq: 1, Reply: api.Reply{Vars: vars}}, {Client: 2, Seq: 1, Reply: api.Reply{Vars: vars}}}
	nodes := []uint8{3, 9, 11}
	d := made(t, 64, 60)
	s := storeOn(t, "P0.3", d, api.State{})
	putAll(t, s, accepted(3, 9, r), accepted(4, 9, r), api.Rec{Kind: api.RecConf, Conf: api.Conf{C: 1, Old: nodes[:2], New: nodes}})
	for range 2 {
		all := s.State()
		wipeReg(all.Slots[3].Reg)
		if !reg.Same(all.Slots[4].Reg, r) {
			t.Errorf("P0.3: two registers of one answer share memory: %v", all.Slots[4].Reg)
		}
		wipe(all.Slots[4].Reg.Vars)
		wipe(all.Slots[4].Reg.Done[0].Reply.Vars)
		if !slices.Equal(all.Slots[4].Reg.Done[1].Reply.Vars, vars) {
			t.Errorf("P0.3: two lists of a register share memory: %v", all.Slots[4].Reg)
		}
		for _, c := range []api.Conf{all.Conf, s.Conf()} {
			wipe(c.Old)
			if !slices.Equal(c.New, nodes) {
				t.Errorf("P0.3: two lists of a configuration share memory: %v", c)
			}
		}
		one := s.Slot(3)
		wipe(one.Reg.Vars)
		if !slices.Equal(one.Reg.Done[0].Reply.Vars, vars) {
			t.Errorf("P0.3: two lists of a slot share memory: %v", one)
		}
		s, _ = store.Open(d)
	}
}

func TestNilIsAsEmpty(t *testing.T) {
	var disks []*sector.Disk
	for _, empty := range []bool{false, true} {
		d := made(t, 64, 40)
		s := storeOn(t, "P0.4", d, api.State{})
		for _, r := range []api.Rec{promised(0, 1), accepted(3, 9, api.Reg{Kind: api.Live, Inc: 1, Done: []api.Done{{Client: 1, Seq: 1}}}), gone(2), fence(3), life(2), stable(2, 3)} {
			if empty {
				r = roomyRec(r)
			}
			putAll(t, s, r)
		}
		// Two of a kind that may not be, but for a list that is there or isn't.
		for _, r := range []api.Rec{{Kind: api.RecConf}, accepted(3, 9, api.Reg{Inc: 1})} {
			if empty {
				r = roomyRec(r)
			}
			must(t, "P0.4: Put", s.Put(r), api.ErrForm)
		}
		disks = append(disks, d)
	}
	holdAlike(t, nil, disks[0], disks[1])
	x, _ := store.Open(disks[0])
	storeOn(t, "P0.4", disks[1], x.State())
}

func TestAnswersHangOnWhatTheStoreWasTold(t *testing.T) {
	rnd := rand.New(rand.NewSource(7))
	for range 150 {
		size, count := 64+rnd.Intn(449), 6+rnd.Intn(50)
		row := randomRow(rnd, size, count, 40)
		alone := opened(t, made(t, size, count), openStore)
		var want []api.Errno
		for _, c := range row {
			want = append(want, alone.ask(c))
		}
		// The same row, while another store is told others.
		b := opened(t, made(t, size, count), openStore)
		other := opened(t, made(t, size, count), openStore)
		for i, c := range row {
			other.ask(randomCall(rnd, size, count))
			other.s.State()
			if got := b.ask(c); got != want[i] {
				t.Fatalf("P0.5: %v: %v, before %v", c, got, want[i])
			}
		}
		holdAlike(t, row, b.d, alone.d)
		holdKnows(t, "P0.5", b.s, alone.s.State())
	}
}

func TestWhatIsAskedChangesNothing(t *testing.T) {
	d, s, knew := known(t)
	was := stand(d)
	d.Fuse(0)
	for range 3 {
		askParts(s)
		store.Open(d)
		journal.Open(d)
	}
	holdKnows(t, "P0.5: asked thrice", s, knew)
	if stand(d) != was {
		t.Errorf("P0.5: who asks what is known changes the disk: %s", stand(d))
	}
}
