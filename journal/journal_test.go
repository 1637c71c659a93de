package journal_test

import (
	"bytes"
	"strings"
	"testing"

	"scrutineer/api"
	"scrutineer/journal"
	"scrutineer/sector"
)

// made is a new disk.
func made(t *testing.T, size, count int) *sector.Disk {
	t.Helper()
	d, e := sector.New(size, count)
	if e != api.OK || d == nil {
		t.Fatalf("New of %d, %d: %v, %v", size, count, d, e)
	}
	return d
}

// must holds that a call is answered so.
func must(t *testing.T, what string, got, want api.Errno) {
	t.Helper()
	if got != want {
		t.Fatalf("P13.1: %s: %v, not %v", what, got, want)
	}
}

// opened is the journal on a disk, which has these records.
func opened(t *testing.T, promise string, d *sector.Disk, want ...string) *journal.Journal {
	t.Helper()
	j, l, e := journal.Open(d)
	if j == nil || e != api.OK || !sameRecs(l, recs(want...)) {
		t.Fatalf("%s: Open: %v, %q, %v, not %q", promise, j, l, e, want)
	}
	return j
}

// notOpened holds that a disk isn't opened.
func notOpened(t *testing.T, promise string, d *sector.Disk, want api.Errno) {
	t.Helper()
	if j, l, e := journal.Open(d); j != nil || len(l) > 0 || e != want {
		t.Fatalf("%s: Open: %v, %q, %v, not %v", promise, j, l, e, want)
	}
}

// recs are texts as records.
func recs(l ...string) [][]byte {
	var out [][]byte
	for _, s := range l {
		out = append(out, []byte(s))
	}
	return out
}

// long is a record of so many bytes.
func long(n int) string {
	return strings.Repeat("r", n)
}

// appended appends records.
func appended(t *testing.T, j *journal.Journal, l ...string) {
	t.Helper()
	for _, s := range l {
		must(t, "Append", j.Append([]byte(s)), api.OK)
	}
}

// holdRoom holds how many sectors are left.
func holdRoom(t *testing.T, j *journal.Journal, want int) {
	t.Helper()
	if n := j.Room(); n != want {
		t.Fatalf("P13.1: Room: %d, not %d", n, want)
	}
}

// holdTakes holds how many sectors a record of so many bytes takes.
func holdTakes(t *testing.T, j *journal.Journal, n, want int) {
	t.Helper()
	if got := j.Takes(make([]byte, n)); got != want {
		t.Fatalf("P13.1: Takes of %d bytes: %d, not %d", n, got, want)
	}
}

// holdPicture holds that all of a disk is so, and nothing waits.
func holdPicture(t *testing.T, d *sector.Disk, want picture) {
	t.Helper()
	if p := taken(t, d); !bytes.Equal(p.b, want.b) || d.Waits() != 0 {
		for i := range p.count() {
			x, y := p.b[i*p.size:(i+1)*p.size], want.b[i*p.size:(i+1)*p.size]
			if !bytes.Equal(x, y) {
				t.Errorf("P13.1: the sector %d is %x, not %x", i, x, y)
			}
		}
		t.Fatalf("P13.1: the disk isn't as said; %d writes wait", d.Waits())
	}
}

func TestANewDiskIsAnEmptyJournal(t *testing.T) {
	for _, size := range []int{64, 65, 512} {
		for _, count := range []int{6, 7, 8, 9, 22, 4095, 4096} {
			d := made(t, size, count)
			j := opened(t, "P13.1", d)
			holdRoom(t, j, (count-2)/2)
			if d.Waits() != 0 || d.Falls() != 0 {
				t.Errorf("P13.1: Open: %d writes wait, %d falls", d.Waits(), d.Falls())
			}
		}
	}
}

func TestDisksThatAreTooSmall(t *testing.T) {
	notOpened(t, "P13.1", nil, api.ErrArg)
	for count := 1; count < 6; count++ {
		for _, size := range []int{64, 512} {
			d := made(t, size, count)
			notOpened(t, "P13.1", d, api.ErrArg)
			d.Fall()
			notOpened(t, "P13.1", d, api.ErrArg)
		}
	}
}

func TestADiskThatIsDown(t *testing.T) {
	for _, p := range []picture{blank(64, 6), blank(64, 6).seal(1, 0, 0), blank(64, 6).put(0, []byte("spoilt"))} {
		d := p.disk(t)
		d.Fall()
		notOpened(t, "P13.1", d, api.ErrDown)
		notOpened(t, "P13.1", d, api.ErrDown)
	}
}

func TestOpenWritesNothing(t *testing.T) {
	for _, p := range []picture{blank(64, 6), blank(64, 6).seal(1, 0, 1).records(0, "a"), blank(64, 6).seal(1, 0, 1)} {
		d := p.disk(t)
		d.Fuse(0)
		for range 3 {
			journal.Open(d)
		}
		if !d.IsOn() || d.Waits() != 0 {
			t.Errorf("P13.1: Open: on %v, %d writes wait", d.IsOn(), d.Waits())
		}
		holdPicture(t, d, p)
	}
}

func TestAppendIsThere(t *testing.T) {
	d := made(t, 64, 22)
	j := opened(t, "P13.1", d)
	appended(t, j, "one")
	holdPicture(t, d, blank(64, 22).records(0, "one").seal(1, 0, 1).seal(2, 0, 1))
	opened(t, "P13.1", d, "one")
	appended(t, j, "", long(100))
	holdPicture(t, d, blank(64, 22).records(0, "one", "", long(100)).seal(5, 0, 3).seal(6, 0, 3))
	holdRoom(t, j, 6)
	j = opened(t, "P13.1", d, "one", "", long(100))
	holdRoom(t, j, 6)
	appended(t, j, "four")
	holdRoom(t, j, 5)
	holdPicture(t, d, blank(64, 22).records(0, "one", "", long(100), "four").seal(7, 0, 4).seal(8, 0, 4))
}

func TestAppendByItsBytes(t *testing.T) {
	d := made(t, 64, 8)
	appended(t, opened(t, "P13.1", d), "abc")
	for at, want := range map[int][]byte{
		// Seven marked bytes, and their length's mark; the turn, the generation, how many records.
		0: marked([]byte{0, 7}),
		2: marked([]byte{0, 10}),
	} {
		b, _ := d.Read(at)
		if !bytes.HasPrefix(b, want) {
			t.Errorf("P13.1: the sector %d is %x, not with %x in front", at, b, want)
		}
	}
	for at, want := range map[int][]byte{0: {2, 0, 1}, 1: {1, 0, 1}, 2: {0, 1, 3, 'a', 'b', 'c'}} {
		b, _ := d.Read(at)
		m := marked(want)
		if !bytes.Equal(b[6:6+len(m)], m) || bytes.Count(b[6+len(m):], []byte{0}) != 64-6-len(m) {
			t.Errorf("P13.1: the sector %d is %x, not with %x behind its length, and zeros", at, b, m)
		}
	}
}

func TestTheLengthsHigherByteIsFirst(t *testing.T) {
	d := made(t, 512, 22)
	appended(t, opened(t, "P13.1", d), long(1000))
	b, _ := d.Read(2)
	// The generation, the number, two bytes of the row's length, its bytes, and the mark.
	if n := 1 + 1 + 2 + 1000 + 4; !bytes.HasPrefix(b, marked([]byte{byte(n / 256), byte(n % 256)})) {
		t.Errorf("P13.1: the frame is %x", b)
	}
}

func TestAppendAtTheLimits(t *testing.T) {
	for _, size := range []int{64, 65, 511, 512} {
		d := made(t, size, 400)
		j := opened(t, "P13.1", d)
		appended(t, j, long(2047), long(2048))
		was := taken(t, d)
		for _, n := range []int{2049, 2050, 1 << 20} {
			must(t, "Append", j.Append(make([]byte, n)), api.ErrLong)
			must(t, "Compact", j.Compact([][]byte{nil, make([]byte, n)}), api.ErrLong)
			holdTakes(t, j, n, 0)
		}
		holdPicture(t, d, was)
		appended(t, opened(t, "P13.1", d, long(2047), long(2048)), "c")
		opened(t, "P13.1", d, long(2047), long(2048), "c")
	}
}

func TestTakesIsWhatAppendTakes(t *testing.T) {
	for _, size := range []int{64, 65, 127, 511, 512} {
		j := opened(t, "P13.1", made(t, size, 100))
		for n := range 2049 {
			want := (len(recFrame(0, 1, make([]byte, n))) + size - 1) / size
			holdTakes(t, j, n, want)
		}
	}
	d := made(t, 64, 4096)
	j := opened(t, "P13.1", d)
	for n := 0; n <= 2048; n += 19 {
		room := j.Room()
		takes := j.Takes(make([]byte, n))
		must(t, "Append", j.Append(make([]byte, n)), api.OK)
		holdRoom(t, j, room-takes)
	}
}

func TestFramesThatEndWithASector(t *testing.T) {
	// Six bytes of a length, three numbers of one byte, four of a mark.
	const most = 64 - 6 - 3 - 4
	d := made(t, 64, 12)
	j := opened(t, "P13.1", d)
	holdTakes(t, j, most, 1)
	holdTakes(t, j, most+1, 2)
	appended(t, j, long(most))
	holdRoom(t, j, 4)
	appended(t, j, long(most+1))
	holdRoom(t, j, 2)
	opened(t, "P13.1", d, long(most), long(most+1))
	// A row of 128 bytes has a length of two.
	holdTakes(t, j, 128-6-4-4, 2)
	holdTakes(t, j, 128-6-4-3, 2)
	holdTakes(t, j, 192-6-4-4, 3)
	holdTakes(t, j, 192-6-4-3, 4)
}

func TestTakesIsOfTheNextNumber(t *testing.T) {
	const most = 64 - 6 - 3 - 4
	d := made(t, 64, 400)
	j := opened(t, "P13.1", d)
	for n := range 127 {
		holdTakes(t, j, most, 1)
		must(t, "Append", j.Append([]byte{byte(n)}), api.OK)
	}
	// The number 128 has two bytes.
	holdTakes(t, j, most, 2)
	holdTakes(t, j, most-1, 1)
	room := j.Room()
	appended(t, j, long(most))
	holdRoom(t, j, room-2)
}

func TestTakesIsOfTheGeneration(t *testing.T) {
	const most = 64 - 6 - 3 - 4
	for gen, less := range map[uint64]int{0: 0, 1: 0, 127: 0, 128: 1, 129: 1, 1 << 14: 2, 1<<63 - 1: 8, 1 << 63: 9, 1<<64 - 1: 9} {
		j := opened(t, "P13.1", blank(64, 22).seal(1, gen, 0).disk(t))
		holdTakes(t, j, most-less, 1)
		holdTakes(t, j, most-less+1, 2)
	}
}

func TestAnAreaThatIsFull(t *testing.T) {
	const most = 64 - 6 - 3 - 4
	for _, count := range []int{6, 7, 12, 13} {
		area := (count - 2) / 2
		for compacts := range 3 {
			d := made(t, 64, count)
			j := opened(t, "P13.1", d)
			for range compacts {
				must(t, "Compact", j.Compact(recs("x")), api.OK)
			}
			must(t, "Compact", j.Compact(nil), api.OK)
			gen := uint64(compacts) + 1
			var l []string
			for n := range area {
				holdRoom(t, j, area-n)
				l = append(l, long(most-n))
				appended(t, j, l[n])
			}
			holdRoom(t, j, 0)
			was := taken(t, d)
			for _, s := range []string{"", "a", long(most), long(2048)} {
				must(t, "Append to a full area", j.Append([]byte(s)), api.ErrFull)
			}
			must(t, "Append of a long record to a full area", j.Append(make([]byte, 2049)), api.ErrLong)
			holdPicture(t, d, was)
			holdRoom(t, opened(t, "P13.1", d, l...), 0)
			// The other area has room again.
			must(t, "Compact", j.Compact(recs(l[1:]...)), api.OK)
			holdRoom(t, j, 1)
			appended(t, j, "z")
			opened(t, "P13.1", d, append(l[1:len(l):len(l)], "z")...)
			if front := frontOf(gen+1, count); !bytes.HasPrefix(taken(t, d).b[front*64:], recFrame(gen+1, 1, []byte(l[1]))) {
				t.Errorf("P13.1: of %d sectors, the generation %d doesn't stand at %d", count, gen+1, front)
			}
		}
	}
}

func TestARecordOfSomeSectorsThatHasNoRoom(t *testing.T) {
	for room := 1; room <= 3; room++ {
		d := made(t, 64, 22)
		j := opened(t, "P13.1", d)
		for j.Room() > room {
			appended(t, j, "a")
		}
		n := room*64 - 6 - 3 - 4
		if n >= 128 {
			n--
		}
		holdTakes(t, j, n, room)
		holdTakes(t, j, n+1, room+1)
		must(t, "Append", j.Append(make([]byte, n+1)), api.ErrFull)
		must(t, "Append", j.Append(make([]byte, n)), api.OK)
		holdRoom(t, j, 0)
	}
}

func TestCompactToOthers(t *testing.T) {
	for _, old := range [][]string{nil, {"a"}, {"a", "b", long(200)}} {
		for _, l := range [][]string{nil, {""}, {"all"}, {long(200), "b", ""}, {"0", "1", "2", "3", "4", "5", "6", "7", "8", "9"}} {
			d := made(t, 64, 22)
			j := opened(t, "P13.1", d)
			appended(t, j, old...)
			must(t, "Compact", j.Compact(recs(l...)), api.OK)
			n := uint64(len(old))
			want := blank(64, 22).records(0, old...).records(1, l...)
			want = want.seal(2*n+1, 1, uint64(len(l))).seal(2*n+2, 1, uint64(len(l)))
			holdPicture(t, d, want)
			holdRoom(t, opened(t, "P13.1", d, l...), j.Room())
			// Once more, into the first area.
			must(t, "Compact", j.Compact(recs("new")), api.OK)
			holdRoom(t, j, 9)
			if p := taken(t, d); !bytes.HasPrefix(p.b[2*64:], recFrame(2, 1, []byte("new"))) {
				t.Errorf("P13.1: the generation 2 doesn't stand in the first area")
			}
			opened(t, "P13.1", d, "new")
			appended(t, j, "more")
			opened(t, "P13.1", d, "new", "more")
		}
	}
}

func TestCompactOfTooMuch(t *testing.T) {
	d := made(t, 64, 12)
	j := opened(t, "P13.1", d)
	appended(t, j, "a", "b")
	was := taken(t, d)
	for _, x := range []struct {
		l    [][]byte
		want api.Errno
	}{
		{make([][]byte, 6), api.ErrFull},
		{make([][]byte, 1<<20), api.ErrFull},
		{recs("a", "b", "c", long(100)), api.OK},
		{recs("a", "b", "c", long(200)), api.ErrFull},
		{recs(long(2048)), api.ErrFull},
		{recs(long(2049)), api.ErrLong},
		{append(make([][]byte, 1000), make([]byte, 2049)), api.ErrLong},
		{make([][]byte, 5), api.OK},
	} {
		before := taken(t, d)
		must(t, "Compact", j.Compact(x.l), x.want)
		if x.want != api.OK {
			holdPicture(t, d, before)
		}
	}
	if bytes.Equal(was.b, taken(t, d).b) {
		t.Error("P13.1: Compact writes nothing")
	}
	holdRoom(t, j, 0)
}

func TestCompactIsOfTheNextGeneration(t *testing.T) {
	// With a number of one byte the frame is a sector, with one of two it is two.
	const most = 64 - 6 - 3 - 4
	for _, x := range []struct {
		gen  uint64
		want api.Errno
	}{{125, api.OK}, {126, api.OK}, {127, api.ErrFull}, {1<<64 - 2, api.ErrFull}, {1<<64 - 1, api.OK}} {
		d := blank(64, 6).seal(0, x.gen, 0).disk(t)
		j := opened(t, "P13.1", d)
		must(t, "Compact", j.Compact(recs(long(most), long(most))), x.want)
		if x.want == api.OK {
			opened(t, "P13.1", d, long(most), long(most))
			holdRoom(t, j, 0)
		}
	}
}

func TestBehindAnErrorOfTheDisk(t *testing.T) {
	for _, keep := range []int{0, 1, 9} {
		for n := range 5 {
			for _, last := range []call{{name: "Append", rec: []byte("b")}, {name: "Compact", l: recs("c")}, {name: "Compact"}} {
				b := &bench{d: made(t, 64, 22), open: openJournal}
				b.ask(call{name: "Open"})
				must(t, "Append", b.ask(call{name: "Append", rec: []byte("a")}).err, api.OK)
				b.d.Fuse(n)
				must(t, last.name, b.ask(last).err, api.ErrDown)
				holdOver(t, b.j)
				b.d.Back(keep, false)
				holdOver(t, b.j)
				was := taken(t, b.d)
				holdOver(t, b.j)
				holdPicture(t, b.d, was)
				j, _, e := journal.Open(b.d)
				must(t, "Open", e, api.OK)
				appended(t, j, "d")
			}
		}
	}
}

// holdOver holds that each further call is answered ErrDown.
func holdOver(t *testing.T, j faced) {
	t.Helper()
	for _, rec := range [][]byte{nil, []byte("a"), make([]byte, 2048), make([]byte, 2049)} {
		must(t, "Append behind an error of the disk", j.Append(rec), api.ErrDown)
		must(t, "Compact behind an error of the disk", j.Compact([][]byte{rec}), api.ErrDown)
	}
	must(t, "Compact behind an error of the disk", j.Compact(nil), api.ErrDown)
	must(t, "Compact behind an error of the disk", j.Compact(make([][]byte, 1000)), api.ErrDown)
}

func TestADiskThatFellBetween(t *testing.T) {
	// Whoever asked nothing of a disk while it was down goes on.
	d := made(t, 64, 22)
	j := opened(t, "P13.1", d)
	for range 3 {
		appended(t, j, "a")
		d.Fall()
		d.Back(9, true)
	}
	// What is refused ahead of the disk is no error of the disk.
	d.Fall()
	must(t, "Append", j.Append(make([]byte, 2049)), api.ErrLong)
	must(t, "Append", j.Append(make([]byte, 2048)), api.ErrFull)
	must(t, "Compact", j.Compact(recs(long(2049))), api.ErrLong)
	must(t, "Compact", j.Compact(recs(long(2048))), api.ErrFull)
	d.Back(0, false)
	appended(t, j, "b")
	opened(t, "P13.2", d, "a", "a", "a", "b")
	d.Fall()
	must(t, "Append", j.Append(nil), api.ErrDown)
	d.Back(0, false)
	must(t, "Append", j.Append(nil), api.ErrDown)
	opened(t, "P13.2", d, "a", "a", "a", "b")
}

func TestTheDisksErrorIsTheFirst(t *testing.T) {
	for _, x := range []struct {
		c    call
		done int
	}{
		{call{name: "Append", rec: []byte("one sector")}, 1 + 1 + 2 + 2},
		{call{name: "Append", rec: make([]byte, 2048)}, 33 + 1 + 2 + 2},
		{call{name: "Compact"}, 0 + 1 + 2 + 2},
		{call{name: "Compact", l: recs("a", long(100), "c")}, 4 + 1 + 2 + 2},
	} {
		for n := range x.done + 1 {
			b := &bench{d: made(t, 64, 80), open: openJournal}
			b.ask(call{name: "Open"})
			b.d.Fuse(n)
			want := api.ErrDown
			if n == x.done {
				want = api.OK
			}
			must(t, x.c.String(), b.ask(x.c).err, want)
			// The fuse isn't at its end ahead of the next call.
			if n == x.done {
				must(t, "Sync", b.d.Sync(), api.ErrDown)
			}
		}
	}
}
