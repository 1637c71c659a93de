package sector_test

import (
	"bytes"
	"math"
	"math/rand"
	"testing"

	"scrutineer/api"
	"scrutineer/sector"
)

// edges are numbers at all ends.
func edges() []int {
	return []int{math.MinInt, math.MinInt32, -513, -1, 0, 1, 2, 3, 63, 64, 65, 4095, 4096, 1 << 31, 1 << 32, math.MaxInt}
}

// atTheEdges are calls with numbers at all ends.
func atTheEdges() []call {
	l := []call{{name: "Sync"}, {name: "Fall"}}
	for _, i := range edges() {
		l = append(l, call{name: "Read", i: i}, call{name: "Fuse", i: i}, call{name: "Back", i: i}, call{name: "Back", i: i, torn: true})
		for _, n := range []int{0, 1, 63, 64, 65, 1 << 20} {
			l = append(l, call{name: "Write", i: i, b: make([]byte, n)})
		}
		l = append(l, call{name: "Write", i: i})
		for _, at := range edges() {
			l = append(l, call{name: "Spoil", i: i, at: at, by: 255})
		}
	}
	return l
}

// noPanic tells of a panic.
func noPanic(t *testing.T) {
	t.Helper()
	if p := recover(); p != nil {
		t.Errorf("P0.1: a call panics: %v", p)
	}
}

func TestEveryCallEnds(t *testing.T) {
	defer noPanic(t)
	for _, size := range edges() {
		for _, count := range edges() {
			d, _ := sector.New(size, count)
			ask(d, call{name: "Write", b: make([]byte, 64)})
			ask(d, call{name: "Back", i: math.MaxInt, torn: true})
		}
	}
	rnd := rand.New(rand.NewSource(4))
	l := atTheEdges()
	for range 300 {
		d := made(t, 64, 1+rnd.Intn(3))
		for _, i := range rnd.Perm(len(l))[:200] {
			ask(d, l[i])
			d.Size()
			d.Count()
			d.IsOn()
			d.Falls()
			d.Waits()
		}
	}
}

func TestANilDisk(t *testing.T) {
	defer noPanic(t)
	var d *sector.Disk
	for _, c := range atTheEdges() {
		got := ask(d, c)
		want := api.ErrArg
		if c.name == "Fuse" || c.name == "Fall" || c.name == "Back" {
			want = api.OK
		}
		if len(got.b) > 0 || got.err != want {
			t.Errorf("P12.1: %v of a nil disk: %x, %v", c, got.b, got.err)
		}
		if d.Size() != 0 || d.Count() != 0 || d.IsOn() || d.Falls() != 0 || d.Waits() != 0 {
			t.Errorf("P12.1: a nil disk behind %v: %d, %d, %v, %d, %d", c, d.Size(), d.Count(), d.IsOn(), d.Falls(), d.Waits())
		}
	}
}

func TestAZeroDiskIsLikeANilOne(t *testing.T) {
	// P0.6 lets it panic, too.
	defer func() { _ = recover() }()
	var none *sector.Disk
	var d sector.Disk
	for _, c := range atTheEdges() {
		if got, want := ask(&d, c), ask(none, c); !same(got, want) || !alike(seen(&d), seen(none)) {
			t.Errorf("P0.6: %v of a zero disk: %x, %v", c, got.b, got.err)
		}
	}
}

func TestErrorsStandAlone(t *testing.T) {
	for _, x := range [][2]int{{63, 1}, {513, 1}, {64, 0}, {64, 4097}, {0, 0}} {
		if d, e := sector.New(x[0], x[1]); d != nil || e != api.ErrArg {
			t.Errorf("P0.2: New of %v: %v, %v", x, d, e)
		}
	}
	d := made(t, 64, 2)
	must(t, "Write", d.Write(0, full(64, 'a')), api.OK)
	for range 2 {
		for _, i := range []int{-1, 0, 1, 2} {
			if b, e := d.Read(i); e != api.OK && len(b) > 0 {
				t.Errorf("P0.2: Read of %d: %x beside %v", i, b, e)
			}
		}
		d.Fall()
	}
}

func TestTheFirstNamedErrorIsTheAnswer(t *testing.T) {
	d := made(t, 64, 2)
	for _, x := range []struct {
		off  bool
		i, n int
		want api.Errno
	}{
		{false, 1, 64, api.OK}, {false, 1, 63, api.ErrForm}, {false, 2, 64, api.ErrRange}, {false, 2, 63, api.ErrRange},
		{true, 1, 64, api.ErrDown}, {true, 1, 63, api.ErrDown}, {true, 2, 64, api.ErrDown}, {true, 2, 63, api.ErrDown},
	} {
		d.Back(0, false)
		if x.off {
			d.Fall()
		}
		if e := d.Write(x.i, make([]byte, x.n)); e != x.want {
			t.Errorf("P0.2: Write to %d of %d bytes, down %v: %v, not %v", x.i, x.n, x.off, e, x.want)
		}
	}
}

func TestWhatIsHandedInIsNeitherChangedNorKept(t *testing.T) {
	room := append(full(64, 'a'), "the room behind them"...)
	keep := bytes.Clone(room)
	b := room[:64]
	for _, stay := range []func(d *sector.Disk){
		func(*sector.Disk) {},
		func(d *sector.Disk) { d.Sync() },
		func(d *sector.Disk) { d.Back(9, false) },
		func(d *sector.Disk) { d.Spoil(0, 0, 1); d.Spoil(1, 0, 1); d.Sync() },
	} {
		d := made(t, 64, 2)
		must(t, "Write", d.Write(0, b), api.OK)
		must(t, "Write", d.Write(1, b), api.OK)
		must(t, "Write", d.Write(2, b), api.ErrRange)
		must(t, "Write", d.Write(1, room), api.ErrForm)
		stay(d)
		if !bytes.Equal(room, keep) {
			t.Fatalf("P0.3: the bytes that were handed in, and the room behind them, are %q", room)
		}
		must(t, "Spoil", d.Spoil(0, 5, 255), api.OK)
		d.Read(0)
		d.Write(0, full(64, 'z'))
		d.Back(1, true)
		if !bytes.Equal(room, keep) {
			t.Fatalf("P0.3: later calls change the bytes that were handed in: %q", room)
		}
		must(t, "Write", d.Write(1, b), api.OK)
		clear(b)
		holdRead(t, "P0.3", d, 1, keep[:64])
		d.Sync()
		holdRead(t, "P0.3", d, 1, keep[:64])
		copy(room, keep)
	}
}

func TestOneRowInTwoSectorsIsNotShared(t *testing.T) {
	d := made(t, 64, 3)
	b := full(64, 'a')
	for i := range 2 {
		must(t, "Write", d.Write(i, b), api.OK)
	}
	must(t, "Sync", d.Sync(), api.OK)
	must(t, "Spoil", d.Spoil(0, 0, 1), api.OK)
	must(t, "Spoil", d.Spoil(2, 0, 1), api.OK)
	holdRead(t, "P0.3", d, 1, full(64, 'a'))
	// Another disk's zeros are others, too.
	holdRead(t, "P0.5", made(t, 64, 3), 2, make([]byte, 64))
}

// reached are disks with one sector that nothing was written to, that waits, that stays, and that is torn.
func reached(t *testing.T) []*sector.Disk {
	t.Helper()
	l := []*sector.Disk{made(t, 64, 1), made(t, 64, 1), made(t, 64, 1), made(t, 64, 1)}
	for _, d := range l[1:] {
		must(t, "Write", d.Write(0, full(64, 'a')), api.OK)
	}
	l[2].Sync()
	l[3].Back(1, true)
	return l
}

func TestAnswersAreNewMemory(t *testing.T) {
	for n, d := range reached(t) {
		first, _ := d.Read(0)
		second, _ := d.Read(0)
		keep := bytes.Clone(first)
		for i := range first[:cap(first)] {
			first[:cap(first)][i] ^= 255
		}
		if !bytes.Equal(second, keep) {
			t.Errorf("P0.3: two answers of the disk %d share memory", n)
		}
		holdRead(t, "P0.3", d, 0, keep)
		d.Sync()
		holdRead(t, "P0.3", d, 0, keep)
	}
}

func TestLaterCallsLeaveAnAnswer(t *testing.T) {
	for n, d := range reached(t) {
		b, _ := d.Read(0)
		keep := bytes.Clone(b)
		d.Spoil(0, 1, 255)
		d.Sync()
		d.Spoil(0, 2, 255)
		d.Write(0, full(64, 'y'))
		d.Back(1, true)
		d.Write(0, full(64, 'z'))
		d.Sync()
		if !bytes.Equal(b, keep) {
			t.Errorf("P0.3: later calls change what was read of the disk %d: %x, not %x", n, b, keep)
		}
	}
}

func TestNilIsAsEmpty(t *testing.T) {
	for _, falls := range []bool{false, true} {
		d := made(t, 64, 1)
		if falls {
			d.Fall()
		}
		for _, i := range []int{-1, 0, 1} {
			if x, y := d.Write(i, nil), d.Write(i, []byte{}); x != y || x == api.OK {
				t.Errorf("P0.4: Write to %d of nil: %v, of no bytes: %v", i, x, y)
			}
		}
	}
}

func TestAnswersHangOnWhatTheDiskWasTold(t *testing.T) {
	rnd := rand.New(rand.NewSource(5))
	for range 200 {
		size, count := 64+rnd.Intn(449), 1+rnd.Intn(4)
		row := make([]call, 60)
		for i := range row {
			row[i] = random(rnd, size, count)
		}
		alone := made(t, size, count)
		var want []told
		for _, c := range row {
			want = append(want, ask(alone, c))
		}
		// The same row, while other disks are told others.
		d, other := made(t, size, count), made(t, size, count)
		for i, c := range row {
			ask(other, random(rnd, size, count))
			ask(made(t, 64, 4), random(rnd, 64, 4))
			if got := ask(d, c); !same(got, want[i]) {
				t.Fatalf("P0.5: %v: %x, %v, before %x, %v", c, got.b, got.err, want[i].b, want[i].err)
			}
		}
		if !alike(seen(d), seen(alone)) {
			t.Fatalf("P0.5: behind the same row %v two disks stand otherwise", row)
		}
	}
}
