package store_test

import (
	"bytes"
	"fmt"
	"math"
	"slices"
	"testing"

	"scrutineer/api"
	"scrutineer/journal"
	"scrutineer/record"
	"scrutineer/sector"
	"scrutineer/store"
)

// notOpened holds that a disk isn't opened.
func notOpened(t *testing.T, what string, d *sector.Disk, want api.Errno) {
	t.Helper()
	if s, e := store.Open(d); s != nil || e != want {
		t.Fatalf("%s: Open: %v, %v, not %v", what, s, e, want)
	}
}

// storeOn is the store on a disk, which knows this.
func storeOn(t *testing.T, what string, d *sector.Disk, want api.State) *store.Store {
	t.Helper()
	s, e := store.Open(d)
	if s == nil || e != api.OK {
		t.Fatalf("%s: Open: %v, %v", what, s, e)
	}
	holdKnows(t, what, s, want)
	return s
}

// holdJournal holds that these are the records of a disk's journal.
func holdJournal(t *testing.T, what string, d *sector.Disk, want ...[]byte) {
	t.Helper()
	_, l, e := journal.Open(d)
	if e != api.OK || !slices.EqualFunc(l, want, bytes.Equal) {
		t.Fatalf("%s: the journal has %v, %v, not %v", what, l, e, want)
	}
}

// putAll puts records.
func putAll(t *testing.T, s *store.Store, l ...api.Rec) {
	t.Helper()
	for i, r := range l {
		must(t, fmt.Sprintf("P15.1: Put %d, of %v", i, r), s.Put(r), api.OK)
	}
}

// slotState is what is known of one key alone.
func slotState(key uint8, x api.Slot) api.State {
	var s api.State
	s.Slots[key] = x
	return s
}

func TestANewDiskKnowsNothing(t *testing.T) {
	for _, size := range []int{64, 65, 512} {
		for _, count := range []int{6, 7, 22, 4096} {
			d := made(t, size, count)
			was := stand(d)
			d.Fuse(0)
			storeOn(t, "P15.1: a new disk", d, api.State{})
			if stand(d) != was {
				t.Errorf("P15.1: Open wrote to a new disk, or let it fall: %s", stand(d))
			}
		}
	}
}

func TestOpenTellsTheJournalsError(t *testing.T) {
	notOpened(t, "P15.1: no disk", nil, api.ErrArg)
	for count := 1; count < 6; count++ {
		d := made(t, 64, count)
		notOpened(t, "P15.1: a disk that is too small", d, api.ErrArg)
		d.Fall()
		notOpened(t, "P15.1: one that is down", d, api.ErrArg)
	}
	d := laid(t, 64, 22, bytesOf(fence(3), life(2))...)
	d.Fall()
	notOpened(t, "P15.1: a disk that is down", d, api.ErrDown)
	d.Back(0, false)
	must(t, "Spoil", d.Spoil(3, 9, 1), api.OK)
	notOpened(t, "P15.1: a frame that is spoilt", d, api.ErrSum)
	for at := range 2 {
		d = laid(t, 64, 22, bytesOf(fence(3))...)
		must(t, "Spoil", d.Spoil(0, at, 1), api.OK)
		must(t, "Spoil", d.Spoil(1, at, 1), api.OK)
		notOpened(t, "P15.1: seals that are spoilt", d, api.ErrSum)
	}
}

func TestOpenOfNoRecords(t *testing.T) {
	for _, b := range noRecords() {
		for n := range 3 {
			l := slices.Insert(bytesOf(fence(3), life(2)), n, b)
			notOpened(t, fmt.Sprintf("P15.1: %x as the record %d", b, n+1), laid(t, 64, 100, l...), api.ErrForm)
		}
		d := laid(t, 64, 100, b)
		notOpened(t, fmt.Sprintf("P15.1: %x alone", b), d, api.ErrForm)
		// What the journal tells comes first.
		d.Fall()
		notOpened(t, "P0.2: a disk that is down", d, api.ErrDown)
		d.Back(0, false)
		must(t, "Spoil", d.Spoil(2, 6, 1), api.OK)
		notOpened(t, "P0.2: a frame that is spoilt", d, api.ErrSum)
		// What stands where no records are is none.
		d = laid(t, 64, 100, b)
		j, _, _ := journal.Open(d)
		must(t, "Compact", j.Compact(bytesOf(life(4))), api.OK)
		storeOn(t, "P15.1: compacted", d, api.State{Life: 4})
	}
}

func TestOpenOfRecordsLaidByHand(t *testing.T) {
	d := laid(t, 64, 40,
		[]byte{3, 172, 2},
		[]byte{4, 9},
		[]byte{5, 7, 2, 3, 9, 3, 3, 9, 63},
		[]byte{1, 2, 8, 1, 2, 7, 3, 4, 2, 6, 0, 0, 0, 0, 0, 0},
		[]byte{1, 3, 5, 1, 0, 0, 0, 0, 0},
		[]byte{1, 15, 1, 0, 0, 0, 0, 0, 0},
		[]byte{2, 3},
		[]byte{3, 4},
		[]byte{4, 8},
	)
	want := slotState(15, api.Slot{Has: true, Promise: under(1, 0, 0)})
	want.Slots[2] = api.Slot{Has: true, Promise: under(8, 1, 2), Acc: under(7, 3, 4), Reg: api.Reg{Kind: api.Tomb, Inc: 6}}
	want.Fence, want.Life = 300, 8
	want.Conf = between().Conf
	storeOn(t, "P15.1: records laid by hand", d, want)
}

func TestPutOfEachKind(t *testing.T) {
	for i, x := range []struct {
		l    []api.Rec
		want api.State
	}{
		{[]api.Rec{promised(0, 5)}, slotState(0, api.Slot{Has: true, Promise: under(5, 1, 0)})},
		{[]api.Rec{accepted(15, 9, plain())}, slotState(15, api.Slot{Has: true, Promise: under(9, 1, 2), Acc: under(8, 3, 4), Reg: plain()})},
		// Whatever a slot had goes, a higher ballot too.
		{[]api.Rec{accepted(3, 9, plain()), promised(3, 2)}, slotState(3, api.Slot{Has: true, Promise: under(2, 1, 0)})},
		{[]api.Rec{promised(3, 9), accepted(3, 5, tomb())}, slotState(3, api.Slot{Has: true, Promise: under(5, 1, 2), Acc: under(4, 3, 4), Reg: tomb()})},
		{[]api.Rec{accepted(3, 9, plain()), gone(3)}, api.State{}},
		{[]api.Rec{accepted(3, 9, plain()), gone(2), gone(4)}, slotState(3, api.Slot{Has: true, Promise: under(9, 1, 2), Acc: under(8, 3, 4), Reg: plain()})},
		{[]api.Rec{gone(15)}, api.State{}},
		{[]api.Rec{gone(15), promised(15, 1)}, slotState(15, api.Slot{Has: true, Promise: under(1, 1, 0)})},
		{[]api.Rec{fence(7), fence(9), fence(8)}, api.State{Fence: 9}},
		{[]api.Rec{fence(math.MaxUint64), fence(1)}, api.State{Fence: math.MaxUint64}},
		{[]api.Rec{life(7), life(9), life(8)}, api.State{Life: 8}},
		{[]api.Rec{life(math.MaxUint32)}, api.State{Life: math.MaxUint32}},
		{[]api.Rec{stable(4, 1, 2), between()}, api.State{Conf: between().Conf}},
		{[]api.Rec{between(), stable(4, 1, 2)}, api.State{Conf: stable(4, 1, 2).Conf}},
		{[]api.Rec{stable(4, 1, 2), life(3), fence(2)}, api.State{Fence: 2, Life: 3, Conf: stable(4, 1, 2).Conf}},
	} {
		what := fmt.Sprintf("P15.1: row %d", i)
		d := made(t, 64, 40)
		s := storeOn(t, what, d, api.State{})
		putAll(t, s, x.l...)
		holdKnows(t, what, s, x.want)
		holdJournal(t, what, d, bytesOf(x.l...)...)
		storeOn(t, what+", opened anew", d, x.want)
	}
}

func TestPutAppendsTheRecordsBytes(t *testing.T) {
	d := made(t, 64, 40)
	s := storeOn(t, "P15.1", d, api.State{})
	putAll(t, s, gone(3), fence(300), life(9), promised(2, 5), stable(2, 3))
	holdJournal(t, "P15.1: Put", d, []byte{2, 3}, []byte{3, 172, 2}, []byte{4, 9}, []byte{1, 2, 5, 1, 0, 0, 0, 0, 0}, []byte{5, 2, 0, 1, 3})
	// Opened anew it goes on behind them, and nothing that changes nothing is left out.
	s, _ = store.Open(d)
	putAll(t, s, fence(2), fence(300))
	holdJournal(t, "P15.1: Put", d, []byte{2, 3}, []byte{3, 172, 2}, []byte{4, 9}, []byte{1, 2, 5, 1, 0, 0, 0, 0, 0}, []byte{5, 2, 0, 1, 3}, []byte{3, 2}, []byte{3, 172, 2})
}

func TestPutOfWhatMayNotBe(t *testing.T) {
	for _, l := range [][]api.Rec{nil, {accepted(3, 9, plain()), fence(300), life(9), between()}} {
		d := made(t, 64, 22)
		s := storeOn(t, "P15.1", d, api.State{})
		putAll(t, s, l...)
		was, knew := stand(d), s.State()
		for _, r := range faults() {
			must(t, fmt.Sprintf("P15.1: Put of %v, that may not be", r), s.Put(r), api.ErrForm)
			if record.May(r) || stand(d) != was || !record.Same(s.State(), knew) {
				t.Fatalf("P15.1: Put of %v, that may not be, changes something", r)
			}
		}
		putAll(t, s, life(1))
	}
}

// full is a store whose area, of so many sectors, has no room any more: it knows the life so many, and no more.
func full(t *testing.T, area int) (*sector.Disk, *store.Store) {
	t.Helper()
	d := made(t, 64, 2+2*area)
	s := storeOn(t, "P15.1", d, api.State{})
	for n := range area {
		putAll(t, s, life(uint32(n+1)))
	}
	j, _, e := journal.Open(d)
	if e != api.OK || j.Room() != 0 {
		t.Fatalf("a full journal has room: %d, %v", j.Room(), e)
	}
	return d, s
}

func TestWhatIsFullIsCompacted(t *testing.T) {
	for _, x := range []struct {
		r    api.Rec
		want []api.Rec
	}{
		{life(9), []api.Rec{life(9)}},
		{life(1), []api.Rec{life(1)}},
		{fence(7), []api.Rec{fence(7), life(4)}},
		{stable(2, 3), []api.Rec{life(4), stable(2, 3)}},
		{promised(3, 7), []api.Rec{life(4), promised(3, 7)}},
		{accepted(3, 7, api.Reg{}), []api.Rec{life(4), accepted(3, 7, api.Reg{})}},
		// Of a key that isn't had: nothing of it is left.
		{gone(3), []api.Rec{life(4)}},
	} {
		d, s := full(t, 4)
		must(t, fmt.Sprintf("P15.1: Put of %v to what is full", x.r), s.Put(x.r), api.OK)
		holdJournal(t, "P15.1: compacted", d, bytesOf(x.want...)...)
		storeOn(t, "P15.1: compacted", d, s.State())
		// Then there is room, for as many more as the area has sectors.
		l := x.want
		for n := len(l); n < 4; n++ {
			putAll(t, s, life(uint32(100+n)))
			l = append(l, life(uint32(100+n)))
			holdJournal(t, "P15.1: behind compacting", d, bytesOf(l...)...)
		}
		putAll(t, s, life(200))
		want := []api.Rec{life(200)}
		for _, r := range x.want {
			if r.Kind != api.RecLife {
				want = append(want, r)
			}
		}
		slices.SortStableFunc(want, func(a, b api.Rec) int { return order(a) - order(b) })
		holdJournal(t, "P15.1: compacted once more", d, bytesOf(want...)...)
	}
}

// order is where a kind's records stand among all.
func order(r api.Rec) int {
	return map[uint8]int{api.RecFence: 1, api.RecLife: 2, api.RecConf: 3, api.RecSlot: 4}[r.Kind]
}

func TestItIsCompactedOnlyWhenItIsFull(t *testing.T) {
	d := made(t, 64, 12)
	s := storeOn(t, "P15.1", d, api.State{})
	l := []api.Rec{life(1), life(2), life(3), accepted(3, 9, api.Reg{})}
	putAll(t, s, l...)
	holdJournal(t, "P15.1: not full yet", d, bytesOf(l...)...)
	// A frame of two sectors has no room, one of one has.
	b := bytesOf(accepted(3, 9, plain()))[0]
	j, _, _ := journal.Open(d)
	if j.Room() != 1 || j.Takes(b) != 2 {
		t.Fatalf("room for %d, not for %d", j.Room(), j.Takes(b))
	}
	putAll(t, s, fence(3))
	holdJournal(t, "P15.1: full", d, bytesOf(append(l, fence(3))...)...)
	d = laid(t, 64, 12, bytesOf(l...)...)
	s, _ = store.Open(d)
	putAll(t, s, accepted(3, 9, plain()))
	holdJournal(t, "P15.1: compacted", d, bytesOf(life(3), accepted(3, 9, plain()))...)
}

func TestCompactedInOrder(t *testing.T) {
	d := made(t, 64, 46)
	s := storeOn(t, "P15.1", d, api.State{})
	want := []api.Rec{fence(9), life(2), stable(2, 3)}
	for key := range uint8(15) {
		want = append(want, promised(key, uint64(key)+1))
	}
	l := slices.Clone(want)
	slices.Reverse(l)
	putAll(t, s, l...)
	putAll(t, s, life(5), fence(3), gone(15), life(2))
	holdJournal(t, "P15.1: not full yet", d, bytesOf(append(l, life(5), fence(3), gone(15), life(2))...)...)
	knew := s.State()
	putAll(t, s, gone(15))
	holdJournal(t, "P15.1: compacted", d, bytesOf(want...)...)
	storeOn(t, "P15.1: compacted", d, knew)
}

func TestFull(t *testing.T) {
	for _, area := range []int{2, 3, 5, 16} {
		d := made(t, 64, 2+2*area)
		s := storeOn(t, "P15.1", d, api.State{})
		for key := range area {
			putAll(t, s, promised(uint8(key), 1))
		}
		was, knew := stand(d), s.State()
		for _, r := range []api.Rec{fence(1), life(1), stable(0, 1), accepted(0, 9, plain())} {
			must(t, fmt.Sprintf("P15.1: Put of %v, for which there is no room", r), s.Put(r), api.ErrFull)
			holdKnows(t, "P15.1: behind ErrFull", s, knew)
			if stand(d) != was {
				t.Fatalf("P15.1: ErrFull changes the disk:\n%s\nnot\n%s", stand(d), was)
			}
			storeOn(t, "P15.1: behind ErrFull, opened anew", d, knew)
		}
		// What takes no more room than what it takes the place of is put; so is what makes room.
		putAll(t, s, promised(0, 2))
		knew.Slots[0].Promise.Count = 2
		holdKnows(t, "P15.1: behind ErrFull", s, knew)
		must(t, "P15.1: Put, full again", s.Put(life(3)), api.ErrFull)
		putAll(t, s, gone(1), life(3))
		knew.Slots[1], knew.Life = api.Slot{}, 3
		holdKnows(t, "P15.1: behind a key that is gone", s, knew)
		must(t, "P15.1: Put, full once more", s.Put(fence(3)), api.ErrFull)
		storeOn(t, "P15.1: behind a key that is gone, opened anew", d, knew)
	}
}

func TestAllThatThereCanBe(t *testing.T) {
	// The record of most bytes is put as any other one.
	b := bytesOf(largestSlot(15))[0]
	d := laid(t, 64, 4096)
	j, _, _ := journal.Open(d)
	each := j.Takes(b)
	if len(b) > api.MostRecord || each < 20 {
		t.Fatalf("%d bytes, %d sectors", len(b), each)
	}
	parts := []api.Rec{fence(math.MaxUint64), life(math.MaxUint32), stable(math.MaxUint64-1, allNodes()...)}
	rest := 0
	for _, b := range bytesOf(parts...) {
		rest += j.Takes(b)
	}
	for _, x := range []struct {
		room int
		want api.Errno
	}{{16*each + rest, api.OK}, {16*each + rest - 1, api.ErrFull}} {
		d := made(t, 64, 2+2*x.room)
		s := storeOn(t, "P15.1", d, api.State{})
		putAll(t, s, life(1), fence(1))
		putAll(t, s, parts...)
		for key := range uint8(15) {
			putAll(t, s, largestSlot(key))
		}
		knew := s.State()
		must(t, "P15.1: Put of the last one", s.Put(largestSlot(15)), x.want)
		if x.want == api.OK {
			r := largestSlot(15)
			knew.Slots[15] = api.Slot{Has: true, Promise: r.Promise, Acc: r.Acc, Reg: r.Reg}
		}
		holdKnows(t, "P15.1: all that there can be", s, knew)
		storeOn(t, "P15.1: all that there can be, opened anew", d, knew)
	}
}

func TestNoStore(t *testing.T) {
	var none *store.Store
	for _, s := range []*store.Store{none, {}} {
		holdKnows(t, "P15.1: no store", s, api.State{})
		for _, r := range append(some(), faults()...) {
			must(t, "P15.1: Put of no store", s.Put(r), api.ErrArg)
		}
	}
}

func TestBehindAnErrorOfTheDisk(t *testing.T) {
	for _, x := range []struct {
		area  int
		r     api.Rec
		calls int
	}{
		// A frame's sectors, and two seals, with a sync behind the frames and each seal.
		{10, life(9), 6},
		{10, accepted(3, 9, plain()), 7},
		{4, life(9), 6},
		{4, fence(300), 7},
		{4, accepted(3, 9, plain()), 8},
	} {
		for calls := 0; ; calls++ {
			d := laid(t, 64, 2+2*x.area, bytesOf(life(1), life(2), life(3), life(4))...)
			s := storeOn(t, "P15.1", d, api.State{Life: 4})
			d.Fuse(calls)
			e := s.Put(x.r)
			if e == api.OK {
				if calls != x.calls {
					t.Errorf("P15.1: Put of %v to an area of %d: %d writes and syncs, not %d", x.r, x.area, calls, x.calls)
				}
				break
			}
			must(t, "P15.1: Put to a disk that falls", e, api.ErrDown)
			holdOver(t, d, s, x.r)
		}
	}
}

// holdOver holds that a store whose disk fell under a Put answers no further one, and knows what it knew.
func holdOver(t *testing.T, d *sector.Disk, s *store.Store, r api.Rec) {
	t.Helper()
	for range 2 {
		holdKnows(t, "P15.1: behind an error of the disk", s, api.State{Life: 4})
		must(t, "P15.1: Put behind an error of the disk", s.Put(r), api.ErrDown)
		must(t, "P15.1: Put behind an error of the disk", s.Put(gone(1)), api.ErrDown)
		must(t, "P0.2: Put behind an error of the disk", s.Put(gone(16)), api.ErrForm)
		d.Back(0, false)
	}
}

func TestADiskThatIsDownIsStillKnown(t *testing.T) {
	d := made(t, 64, 22)
	s := storeOn(t, "P15.1", d, api.State{})
	putAll(t, s, accepted(3, 9, plain()), between())
	knew := s.State()
	d.Fall()
	holdKnows(t, "P15.1: a disk that is down", s, knew)
	// Nothing was asked of it while it was down.
	d.Back(0, false)
	putAll(t, s, life(1))
	knew.Life = 1
	storeOn(t, "P15.1: behind a fall", d, knew)
}
