package journal_test

import (
	"bytes"
	"math/rand"
	"testing"

	"scrutineer/api"
	"scrutineer/journal"
	"scrutineer/sector"
)

// noPanic tells of a panic.
func noPanic(t *testing.T) {
	t.Helper()
	if p := recover(); p != nil {
		t.Errorf("P0.1: a call panics: %v", p)
	}
}

// someRecs are records at all ends.
func someRecs() [][]byte {
	l := [][]byte{nil, {}}
	for _, n := range []int{1, 50, 51, 52, 127, 128, 2047, 2048, 2049, 1 << 16, 1 << 20} {
		l = append(l, make([]byte, n))
	}
	return l
}

// callAll calls a journal with records, and lists, at all ends.
func callAll(j faced, told func(what string, n int, e api.Errno)) {
	for _, rec := range someRecs() {
		told("Takes", j.Takes(rec), api.OK)
		told("Append", 0, j.Append(rec))
		told("Room", j.Room(), api.OK)
		told("Compact", 0, j.Compact([][]byte{rec}))
		told("Room", j.Room(), api.OK)
	}
	for _, n := range []int{0, 1, 2, 3, 2047, 2048, 1 << 18} {
		told("Compact", 0, j.Compact(make([][]byte, n)))
	}
	told("Compact", 0, j.Compact(nil))
	told("Compact", 0, j.Compact(someRecs()))
}

// nothing hears what calls are answered, and holds nothing of it.
func nothing(string, int, api.Errno) {}

func TestEveryCallEnds(t *testing.T) {
	defer noPanic(t)
	rnd := rand.New(rand.NewSource(6))
	for _, size := range []int{64, 65, 512} {
		for _, count := range []int{6, 7, 4096} {
			j, _, _ := journal.Open(made(t, size, count))
			callAll(j, nothing)
		}
	}
	for range 3000 {
		d := randomPicture(rnd).disk(t)
		if rnd.Intn(2) == 0 {
			d.Fuse(rnd.Intn(30))
		}
		j, _, _ := journal.Open(d)
		if rnd.Intn(100) == 0 {
			callAll(j, nothing)
		}
		j.Append(nil)
		j.Compact(recs("a", "b"))
		journal.Open(d)
	}
}

func TestOpenOfAnyBytesEnds(t *testing.T) {
	defer noPanic(t)
	rnd := rand.New(rand.NewSource(7))
	for range 3000 {
		// A head with a right sum, so that what stands behind it is looked at.
		p := blank(64+rnd.Intn(449), 6+rnd.Intn(8))
		rnd.Read(p.b)
		for at := range p.count() {
			copy(p.b[at*p.size:], marked([]byte{byte(rnd.Intn(3)), byte(rnd.Intn(256))}))
			if rnd.Intn(2) == 0 {
				body := make([]byte, rnd.Intn(40))
				rnd.Read(body)
				copy(p.b[at*p.size:], frameOf(body))
			}
		}
		if rnd.Intn(2) == 0 {
			p = p.seal(rnd.Uint64(), rnd.Uint64(), uint64(rnd.Intn(5)))
		}
		_, _, recs, ok := p.has()
		if _, l, e := journal.Open(p.disk(t)); (e == api.OK) != ok || !sameRecs(l, recs) {
			t.Fatalf("P13.1: Open of %x: %q, %v, not %q", p.b, l, e, recs)
		}
	}
}

// holdNone holds that calls are answered as those of a nil journal are.
func holdNone(t *testing.T, promise string, j *journal.Journal) {
	t.Helper()
	callAll(j, func(what string, n int, e api.Errno) {
		want := api.ErrArg
		if what == "Takes" || what == "Room" {
			want = api.OK
		}
		if n != 0 || e != want {
			t.Errorf("%s: %s of no journal: %d, %v", promise, what, n, e)
		}
	})
}

func TestANilJournal(t *testing.T) {
	defer noPanic(t)
	holdNone(t, "P13.1", nil)
}

func TestAZeroJournalIsLikeANilOne(t *testing.T) {
	// P0.6 lets it panic, too.
	defer func() { _ = recover() }()
	holdNone(t, "P0.6", &journal.Journal{})
}

func TestAZeroDiskIsLikeANilOne(t *testing.T) {
	// P0.6 lets it panic, too.
	defer func() { _ = recover() }()
	notOpened(t, "P0.6", &sector.Disk{}, api.ErrArg)
}

func TestTheFirstNamedErrorIsTheAnswer(t *testing.T) {
	small, spoilt := blank(64, 5).put(0, []byte("spoilt")), blank(64, 6).put(0, []byte("spoilt"))
	for _, x := range []struct {
		p    picture
		down bool
		want api.Errno
	}{{small, true, api.ErrArg}, {small, false, api.ErrArg}, {spoilt, true, api.ErrDown}, {spoilt, false, api.ErrSum}} {
		d := x.p.disk(t)
		if x.down {
			d.Fall()
		}
		notOpened(t, "P0.2", d, x.want)
	}
	tooLong, tooMany := make([]byte, 2049), make([][]byte, 3)
	for _, x := range []struct {
		c               call
		whole, asFallen api.Errno
	}{
		{call{name: "Append", rec: tooLong}, api.ErrLong, api.ErrDown},
		{call{name: "Append", rec: make([]byte, 2048)}, api.ErrFull, api.ErrDown},
		{call{name: "Compact", l: append(tooMany[:3:3], tooLong)}, api.ErrLong, api.ErrDown},
		{call{name: "Compact", l: append([][]byte{tooLong}, tooMany...)}, api.ErrLong, api.ErrDown},
		{call{name: "Compact", l: tooMany}, api.ErrFull, api.ErrDown},
	} {
		b := &bench{d: made(t, 64, 6), open: openJournal}
		b.ask(call{name: "Open"})
		for _, down := range []bool{false, true} {
			if down {
				b.d.Fall()
			}
			if e := b.ask(x.c).err; e != x.whole {
				t.Errorf("P0.2: %v, down %v: %v, not %v", x.c, down, e, x.whole)
			}
		}
		must(t, "Append to a disk that is down", b.j.Append(nil), api.ErrDown)
		if e := b.ask(x.c).err; e != x.asFallen {
			t.Errorf("P0.2: %v behind an error of the disk: %v, not %v", x.c, e, x.asFallen)
		}
	}
}

func TestErrorsStandAlone(t *testing.T) {
	// A record of two is there, but not the second one.
	half := blank(64, 22).records(0, "a").seal(2, 0, 2)
	for _, d := range []*sector.Disk{nil, made(t, 64, 5), half.disk(t), blank(64, 6).put(1, []byte{0, 1}).disk(t)} {
		if j, l, e := journal.Open(d); j != nil || len(l) > 0 || e == api.OK {
			t.Errorf("P0.2: Open: %v, %q beside %v", j, l, e)
		}
	}
}

// roomy are records, with room behind the list's end, and behind each one's.
func roomy(l ...string) [][]byte {
	out := make([][]byte, 0, len(l)+2)
	for _, s := range l {
		out = append(out, append([]byte(s), "room"...)[:len(s)])
	}
	out = append(out, []byte("behind"), []byte("the end"))
	return out[:len(l)]
}

// deep are records in new memory, with what stands in all room.
func deep(l [][]byte) [][]byte {
	var out [][]byte
	for _, rec := range l[:cap(l)] {
		out = append(out, bytes.Clone(rec[:cap(rec)]))
	}
	return out
}

func TestWhatIsHandedInIsNeitherChangedNorKept(t *testing.T) {
	for _, fuse := range []int{0, 3, 5, 1000} {
		d := made(t, 64, 40)
		j := opened(t, "P0.3", d)
		d.Fuse(fuse)
		l := roomy("one", long(100), "", long(2049))
		was := deep(l)
		for _, rec := range l {
			j.Takes(rec)
			j.Append(rec)
		}
		j.Compact(l)
		j.Compact(l[:3])
		j.Append(l[0])
		if !sameRecs(deep(l), was) || len(l) != 4 {
			t.Fatalf("P0.3: what was handed in, and the room behind it, is %q", deep(l))
		}
	}
	d := made(t, 64, 40)
	j := opened(t, "P0.3", d)
	l := roomy("one", long(100))
	must(t, "Append", j.Append(l[0]), api.OK)
	clear(l[0])
	opened(t, "P0.3", d, "one")
	l = roomy("one", long(100))
	must(t, "Compact", j.Compact(l), api.OK)
	clear(l[0])
	clear(l[1])
	clear(l)
	appended(t, j, "two")
	opened(t, "P0.3", d, "one", long(100), "two")
}

func TestAnswersAreNewMemory(t *testing.T) {
	d := made(t, 64, 40)
	j := opened(t, "P0.3", d)
	want := []string{"one", "", long(100), "four"}
	appended(t, j, want...)
	_, first, _ := journal.Open(d)
	_, second, _ := journal.Open(d)
	for _, rec := range first {
		for i := range rec[:cap(rec)] {
			rec[:cap(rec)][i] ^= 255
		}
	}
	clear(first[:cap(first)])
	if !sameRecs(second, recs(want...)) {
		t.Fatalf("P0.3: two answers share memory: %q", second)
	}
	opened(t, "P0.3", d, want...)
	// Nor does one record of an answer with another one.
	for i := range second {
		rec := append(second[i], "more"...)
		for n := range rec {
			rec[n] = '!'
		}
		for k := range second {
			if k > i && string(second[k]) != want[k] {
				t.Fatalf("P0.3: who writes into the record %d changes the record %d: %q", i, k, second[k])
			}
		}
	}
	_, third, _ := journal.Open(d)
	must(t, "Compact", j.Compact(recs("other")), api.OK)
	must(t, "Compact", j.Compact(recs("others", "yet")), api.OK)
	if !sameRecs(third, recs(want...)) {
		t.Fatalf("P0.3: later calls change an answer: %q", third)
	}
}

func TestNilIsAsEmpty(t *testing.T) {
	var disks []*sector.Disk
	for _, empty := range [][]byte{nil, {}} {
		for _, none := range [][][]byte{nil, {}} {
			d := made(t, 64, 22)
			j := opened(t, "P0.4", d)
			holdTakes(t, j, 0, 1)
			if n := j.Takes(empty); n != 1 {
				t.Errorf("P0.4: Takes of %v: %d", empty, n)
			}
			must(t, "Compact", j.Compact(none), api.OK)
			opened(t, "P0.4", d)
			must(t, "Append", j.Append(empty), api.OK)
			must(t, "Compact", j.Compact([][]byte{empty, []byte("a"), empty}), api.OK)
			must(t, "Append", j.Append(empty), api.OK)
			opened(t, "P0.4", d, "", "a", "", "")
			disks = append(disks, d)
		}
	}
	for _, d := range disks {
		holdPicture(t, d, taken(t, disks[0]))
	}
}

func TestAnswersHangOnWhatTheJournalWasTold(t *testing.T) {
	rnd := rand.New(rand.NewSource(8))
	for range 300 {
		size, count := 64+rnd.Intn(449), 6+rnd.Intn(30)
		row := append([]call{{name: "Open"}}, randomRow(rnd, size, count, 30)...)
		alone := &bench{d: made(t, size, count), open: openJournal}
		var want []told
		for _, c := range row {
			want = append(want, alone.ask(c))
		}
		// The same row, while another journal is told others.
		b := &bench{d: made(t, size, count), open: openJournal}
		other := &bench{d: made(t, size, count), open: openJournal}
		other.ask(call{name: "Open"})
		for i, c := range row {
			other.ask(randomCall(rnd, size, count))
			if got := b.ask(c); !same(got, want[i]) {
				t.Fatalf("P0.5: %v: %v, before %v", c, got, want[i])
			}
		}
		holdAlike(t, row, b.d, alone.d)
	}
}
