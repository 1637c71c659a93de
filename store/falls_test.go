package store_test

import (
	"math/rand"
	"slices"
	"testing"

	"scrutineer/api"
	"scrutineer/record"
	"scrutineer/sector"
	"scrutineer/store"
)

// history is a row of calls, behind which a store is open. Where the last fall came between two seals, the elder one tells
// what was known ahead of what was under way.
type history struct {
	row       []call
	isBetween bool
}

// falls are a fuse, a Put, and the disk that is back, of what waits so much staying, and is opened.
func falls(fuse int, r api.Rec, keep int, torn bool) []call {
	return []call{{name: "Fuse", i: fuse}, {name: "Put", rec: r}, {name: "Back", i: keep, torn: torn}, {name: "Open"}}
}

// histories are histories on disks whose areas have six sectors.
func histories() []history {
	lives := puts(life(1), life(2), life(3), life(4), life(5), life(6))
	join := func(rows ...[]call) []call { return slices.Concat(rows...) }
	return []history{
		{row: nil},
		{row: puts(fence(7))},
		{row: puts(accepted(3, 9, plain()), gone(3), promised(2, 5), between())},
		{row: puts(life(1), fence(300), stable(2, 3), promised(0, 1), promised(1, 1), promised(2, 1))},
		// Compacted, and once more, and not, as there was no room.
		{row: join(lives, puts(promised(3, 5)))},
		{row: join(lives, puts(promised(3, 5)), lives, puts(fence(9)))},
		{row: puts(fence(1), life(2), stable(2, 3), promised(0, 1), promised(1, 1), promised(2, 1), promised(3, 1), gone(1), life(8))},
		// Fallen while a frame was written, while a seal was, and between the seals.
		{row: join(puts(life(1)), falls(0, accepted(3, 9, plain()), 1, true))},
		{row: join(puts(life(1)), falls(3, accepted(3, 9, plain()), 0, false))},
		{row: join(puts(life(1)), falls(4, fence(3), 0, false)), isBetween: true},
		{row: join(puts(life(1)), falls(3, accepted(3, 9, plain()), 1, false)), isBetween: true},
		{row: join(puts(life(1)), falls(4, fence(3), 0, false), puts(gone(3)))},
		// The same while it was compacted.
		{row: join(lives, falls(1, promised(3, 5), 2, true))},
		{row: join(lives, falls(3, promised(3, 5), 0, false))},
		{row: join(lives, falls(5, promised(3, 5), 0, false)), isBetween: true},
		{row: join(lives, falls(5, promised(3, 5), 1, true), puts(life(7), fence(2)))},
	}
}

// replayed is a new disk with areas of six sectors of a size behind a history, and the store that is open there.
func replayed(t *testing.T, size int, h history) *bench {
	t.Helper()
	b := opened(t, made(t, size, 14), openStore)
	for _, c := range h.row {
		b.ask(c)
	}
	return b
}

// isKnown tells whether what is known is one of some.
func isKnown(s api.State, some []api.State) bool {
	for _, x := range some {
		if record.Same(s, x) {
			return true
		}
	}
	return false
}

// holdGoesOn holds that a store on a disk goes on from what it knows, whatever else falls.
func holdGoesOn(t *testing.T, promise string, d *sector.Disk, knew api.State) {
	t.Helper()
	s := storeOn(t, promise, d, knew)
	// More than the area has sectors, so that it is compacted, too.
	for n := range uint32(8) {
		must(t, promise+": Put", s.Put(life(1000+n)), api.OK)
		knew.Life = 1000 + n
		if n%3 == 0 {
			d.Back(0, false)
			s = storeOn(t, promise, d, knew)
		}
	}
	d.Back(9, true)
	storeOn(t, promise, d, knew)
}

// holdFallen holds that of a Put behind a history, whose disk falls at the write or sync n, of what waits so much staying,
// all is known behind it, or nothing.
func holdFallen(t *testing.T, size int, h history, r api.Rec, n, keep int, torn bool) {
	t.Helper()
	b := replayed(t, size, h)
	old := b.s.State()
	b.d.Fuse(n)
	e := b.s.Put(r)
	if e != api.OK && !record.Same(b.s.State(), old) {
		t.Fatalf("P15.1: behind %v, Put of %v: %v, and it is known", h.row, r, e)
	}
	b.d.Back(keep, torn)
	s, opened := store.Open(b.d)
	may := []api.State{record.Fold(old, r), old}
	if e == api.OK {
		may = may[:1]
	}
	if opened != api.OK || !isKnown(s.State(), may) {
		t.Fatalf("P15.2: behind %v, Put of %v: %v, fallen at %d, %d stay, torn %v: Open: %v, %v", h.row, r, e, n, keep, torn, s.State(), opened)
	}
	holdGoesOn(t, "P15.2", b.d, s.State())
}

func TestWheneverItFallsAndWhateverStays(t *testing.T) {
	for _, size := range []int{64, 65, 512} {
		for _, h := range histories() {
			for _, r := range []api.Rec{life(99), fence(200), gone(3), accepted(0, 20, plain()), stable(8, 1, 63)} {
				for n, e := 0, api.ErrDown; e == api.ErrDown; n++ {
					b := replayed(t, size, h)
					b.d.Fuse(n)
					e = b.s.Put(r)
					for keep := range b.d.Waits() + 2 {
						holdFallen(t, size, h, r, n, keep, false)
						holdFallen(t, size, h, r, n, keep, true)
					}
				}
			}
		}
	}
}

func TestAFullStoreFalls(t *testing.T) {
	// What is answered ErrFull isn't known behind a fall.
	for keep := range 3 {
		d := laid(t, 64, 8, bytesOf(promised(0, 1), promised(1, 1), promised(2, 1))...)
		s, _ := store.Open(d)
		knew := s.State()
		must(t, "P15.1: Put", s.Put(life(1)), api.ErrFull)
		d.Back(keep, keep == 1)
		s = storeOn(t, "P15.2: behind ErrFull", d, knew)
		putAll(t, s, gone(0), life(1))
	}
}

func TestRowsOfFalls(t *testing.T) {
	rnd := rand.New(rand.NewSource(3))
	for range 200 {
		d := made(t, 64+rnd.Intn(449), 6+rnd.Intn(60))
		var knew api.State
		for range 25 {
			knew = untilItFalls(t, rnd, d, storeOn(t, "P15.2", d, knew))
		}
	}
}

// untilItFalls puts records till the disk falls, and is what is known then.
func untilItFalls(t *testing.T, rnd *rand.Rand, d *sector.Disk, s *store.Store) api.State {
	t.Helper()
	d.Fuse(rnd.Intn(80))
	knew := s.State()
	for isFull := false; ; {
		r := random(rnd)
		if isFull {
			// A key fewer, so that there is room some time.
			r = gone(uint8(rnd.Intn(api.MaxKeys)))
		}
		e, next := s.Put(r), record.Fold(knew, r)
		isFull = e == api.ErrFull
		switch {
		case e == api.OK:
			knew = next
		case e == api.ErrDown:
			d.Back(rnd.Intn(d.Waits()+1), rnd.Intn(2) == 0)
			s, e := store.Open(d)
			if e != api.OK || !isKnown(s.State(), []api.State{knew, next}) {
				t.Fatalf("P15.2: behind a fall in a Put of %v: %v, %v, not %v, with it or without it", r, s.State(), e, knew)
			}
			return s.State()
		case !isFull:
			t.Fatalf("P15.1: Put of %v: %v", r, e)
		}
	}
}
