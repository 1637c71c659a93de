package journal_test

import (
	"bytes"
	"math/rand"
	"slices"
	"testing"

	"scrutineer/api"
	"scrutineer/journal"
	"scrutineer/sector"
)

// opens lets a disk come back, and opens it.
func opens(keep int, torn bool) []call {
	return []call{{name: "Back", i: keep, torn: torn}, {name: "Open"}}
}

// histories are rows of calls, behind each of which a journal is open.
func histories() [][]call {
	open := call{name: "Open"}
	appends := func(l ...string) []call {
		var row []call
		for _, s := range l {
			row = append(row, call{name: "Append", rec: []byte(s)})
		}
		return row
	}
	compact := func(l ...string) []call { return []call{{name: "Compact", l: recs(l...)}} }
	fuse := func(n int) []call { return []call{{name: "Fuse", i: n}} }
	join := func(rows ...[]call) []call { return slices.Concat(append([][]call{{open}}, rows...)...) }
	return [][]call{
		join(),
		join(appends("a")),
		join(appends("a", long(150), "")),
		join(compact()),
		join(appends("a"), compact(long(90), "b")),
		join(compact("a"), appends("b"), compact("c", "d"), appends("e")),
		// Fallen while a frame was written, between the seals, and while a seal was written.
		join(fuse(4), appends("a"), opens(0, false)),
		join(appends("a"), fuse(0), appends("b"), opens(1, true)),
		join(appends("a"), fuse(4), appends("b"), opens(0, false)),
		join(appends("a"), fuse(2), appends("b"), opens(1, true)),
		join(appends("a"), fuse(4), appends("b"), opens(1, true), appends("c")),
		join(appends("a"), fuse(2), compact("b", "c"), opens(1, false)),
		join(appends("a"), fuse(5), compact("b", "c"), opens(0, false)),
		join(appends("a"), fuse(5), compact("b", "c"), opens(1, true), compact("d")),
	}
}

// replayed is a new disk of this size behind a row of calls, and the records that are there then.
func replayed(t *testing.T, size, count int, row []call) (*bench, [][]byte) {
	t.Helper()
	b := &bench{d: made(t, size, count), open: openJournal}
	for _, c := range row {
		b.ask(c)
	}
	_, l, e := journal.Open(b.d)
	must(t, "Open", e, api.OK)
	return b, l
}

// behindCall is what a journal has behind a call that was done, of what it had.
func behindCall(has [][]byte, c call) [][]byte {
	if c.name == "Compact" {
		return c.l
	}
	return append(has[:len(has):len(has)], c.rec)
}

// holdGoesOn holds that a journal on a disk goes on from these records, whatever else falls.
func holdGoesOn(t *testing.T, promise string, d *sector.Disk, has [][]byte) {
	t.Helper()
	for range 2 {
		j, l, e := journal.Open(d)
		if e != api.OK || !sameRecs(l, has) {
			t.Fatalf("%s: Open: %q, %v, not %q", promise, l, e, has)
		}
		must(t, "Append", j.Append([]byte("on")), api.OK)
		has = append(has[:len(has):len(has)], []byte("on"))
		d.Back(9, true)
	}
	j, l, e := journal.Open(d)
	if e != api.OK || !sameRecs(l, has) {
		t.Fatalf("%s: Open: %q, %v, not %q", promise, l, e, has)
	}
	must(t, "Compact", j.Compact(has[1:]), api.OK)
	d.Fall()
	d.Back(0, false)
	if _, l, e := journal.Open(d); e != api.OK || !sameRecs(l, has[1:]) {
		t.Fatalf("%s: Open: %q, %v, not %q", promise, l, e, has[1:])
	}
}

// holdFalls holds that whenever a disk falls in a call behind a row of calls, and whatever stays, the journal has what it
// had, or what it has behind the call.
func holdFalls(t *testing.T, size int, row []call, c call) {
	t.Helper()
	const count = 40
	for n := 0; ; n++ {
		b, _ := replayed(t, size, count, row)
		b.d.Fuse(n)
		e := b.ask(c).err
		waits := b.d.Waits()
		for keep := range waits + 2 {
			for _, torn := range []bool{false, true} {
				b, old := replayed(t, size, count, row)
				b.d.Fuse(n)
				b.ask(c)
				b.d.Back(keep, torn)
				_, l, opened := journal.Open(b.d)
				isOld, isNew := sameRecs(l, old), sameRecs(l, behindCall(old, c))
				if opened != api.OK || !isNew && (e == api.OK || !isOld) {
					t.Fatalf("P13.2: behind %v, %v: %v, fallen at %d, %d stay, torn %v: Open: %q, %v", row, c, e, n, keep, torn, l, opened)
				}
				holdGoesOn(t, "P13.2", b.d, l)
			}
		}
		if e == api.OK {
			return
		}
	}
}

func TestWheneverItFallsAndWhateverStays(t *testing.T) {
	for _, size := range []int{64, 65, 512} {
		for _, row := range histories() {
			for _, c := range []call{
				{name: "Append"},
				{name: "Append", rec: []byte("next")},
				{name: "Append", rec: bytes.Repeat([]byte("0123456789"), 25)},
				{name: "Compact"},
				{name: "Compact", l: recs("only")},
				{name: "Compact", l: recs(long(130), "", "x", "y")},
			} {
				holdFalls(t, size, row, c)
			}
		}
	}
}

func TestTheFirstSealDecides(t *testing.T) {
	// Up to its sync nothing counts that wasn't there; from then on all of it does, whatever becomes of the second one.
	for _, x := range []struct {
		c    call
		seal int
	}{
		{call{name: "Append", rec: []byte("b")}, 2},
		{call{name: "Append", rec: make([]byte, 100)}, 3},
		{call{name: "Compact"}, 1},
		{call{name: "Compact", l: recs("b", "c")}, 3},
	} {
		for n := range x.seal + 4 {
			for keep := range 3 {
				b, old := replayed(t, 64, 40, []call{{name: "Open"}, {name: "Append", rec: []byte("a")}})
				b.d.Fuse(n)
				b.ask(x.c)
				b.d.Back(keep, false)
				want := old
				if n > x.seal+1 || keep > 0 && n >= x.seal {
					want = behindCall(old, x.c)
				}
				if _, l, e := journal.Open(b.d); e != api.OK || !sameRecs(l, want) {
					t.Errorf("P13.2: %v, fallen at %d, %d stay: Open: %q, %v, not %q", x.c, n, keep, l, e, want)
				}
			}
		}
	}
}

func TestRowsOfFalls(t *testing.T) {
	rnd := rand.New(rand.NewSource(4))
	for range 300 {
		size, count := 64+rnd.Intn(449), 6+rnd.Intn(60)
		d := made(t, size, count)
		var has [][]byte
		for range 25 {
			j, l, e := journal.Open(d)
			if e != api.OK || !sameRecs(l, has) {
				t.Fatalf("P13.2: Open: %d records, %v, not the %d that were told", len(l), e, len(has))
			}
			has = untilItFalls(t, rnd, d, j, has)
		}
	}
}

// untilItFalls calls a journal till its disk falls, and holds what is there then.
func untilItFalls(t *testing.T, rnd *rand.Rand, d *sector.Disk, j *journal.Journal, has [][]byte) [][]byte {
	t.Helper()
	d.Fuse(rnd.Intn(40))
	for {
		c := call{name: "Append", rec: randomRec(rnd, d.Size())}
		if rnd.Intn(4) == 0 {
			c = call{name: "Compact", l: randomRecs(rnd, d.Size(), 6)}
		}
		b := &bench{d: d, j: j}
		switch b.ask(c).err {
		case api.OK:
			has = behindCall(has, c)
		case api.ErrDown:
			d.Back(rnd.Intn(d.Waits()+1), rnd.Intn(2) == 0)
			_, l, e := journal.Open(d)
			if e != api.OK || !sameRecs(l, has) && !sameRecs(l, behindCall(has, c)) {
				t.Fatalf("P13.2: behind a fall in %v: %d records, %v, not the %d that were told", c, len(l), e, len(has))
			}
			return l
		}
	}
}
