package sector_test

import (
	"bytes"
	"math"
	"testing"

	"scrutineer/api"
	"scrutineer/sector"
)

// made is a new disk.
func made(t *testing.T, size, count int) *sector.Disk {
	t.Helper()
	d, e := sector.New(size, count)
	if e != api.OK || d == nil {
		t.Fatalf("P12.1: New of %d, %d: %v, %v", size, count, d, e)
	}
	return d
}

// full are the bytes of a sector that are all the same.
func full(size int, c byte) []byte {
	return bytes.Repeat([]byte{c}, size)
}

// halves are the bytes of a sector whose first half, rounded down, is one's, and the rest is another one's.
func halves(size int, front, rest byte) []byte {
	return append(full(size/2, front), full(size-size/2, rest)...)
}

// must holds that a call is answered so.
func must(t *testing.T, what string, got, want api.Errno) {
	t.Helper()
	if got != want {
		t.Fatalf("P12.1: %s: %v, not %v", what, got, want)
	}
}

// holdRead holds that a sector has these bytes.
func holdRead(t *testing.T, promise string, d *sector.Disk, i int, want []byte) {
	t.Helper()
	if b, e := d.Read(i); e != api.OK || !bytes.Equal(b, want) {
		t.Fatalf("%s: Read of %d: %x, %v, not %x", promise, i, b, e, want)
	}
}

// holdStand holds how a disk stands.
func holdStand(t *testing.T, d *sector.Disk, on bool, falls uint64, waits int) {
	t.Helper()
	if d.IsOn() != on || d.Falls() != falls || d.Waits() != waits {
		t.Fatalf("P12.1: IsOn %v, Falls %d, Waits %d, not %v, %d, %d", d.IsOn(), d.Falls(), d.Waits(), on, falls, waits)
	}
}

func TestNewAtTheLimits(t *testing.T) {
	ends := []int{math.MinInt, -4096, -64, -1, 0, 1, 63, 64, 65, 100, 511, 512, 513, 4095, 4096, 4097, math.MaxInt}
	for _, size := range ends {
		for _, count := range ends {
			d, e := sector.New(size, count)
			if size < 64 || size > 512 || count < 1 || count > 4096 {
				if d != nil || e != api.ErrArg {
					t.Errorf("P12.1: New of %d, %d: %v, %v", size, count, d, e)
				}
				continue
			}
			if d == nil || e != api.OK || d.Size() != size || d.Count() != count {
				t.Fatalf("P12.1: New of %d, %d: %v, %v, Size %d, Count %d", size, count, d, e, d.Size(), d.Count())
			}
			holdStand(t, d, true, 0, 0)
			for _, i := range []int{0, count / 2, count - 1} {
				holdRead(t, "P12.1", d, i, make([]byte, size))
			}
		}
	}
}

func TestReadIsWhatWasWrittenLast(t *testing.T) {
	d := made(t, 64, 3)
	for i, c := range []byte("abc") {
		must(t, "Write", d.Write(1, full(64, c)), api.OK)
		must(t, "Write", d.Write(2, full(64, c+10)), api.OK)
		holdRead(t, "P12.1", d, 1, full(64, c))
		holdRead(t, "P12.1", d, 2, full(64, c+10))
		holdRead(t, "P12.1", d, 0, make([]byte, 64))
		holdStand(t, d, true, 0, 2*i+2)
	}
	must(t, "Sync", d.Sync(), api.OK)
	holdStand(t, d, true, 0, 0)
	holdRead(t, "P12.1", d, 1, full(64, 'c'))
	holdRead(t, "P12.1", d, 2, full(64, 'm'))
	must(t, "Write", d.Write(1, full(64, 'a')), api.OK)
	holdRead(t, "P12.1", d, 1, full(64, 'a'))
	must(t, "Sync of nothing that waits", made(t, 64, 1).Sync(), api.OK)
}

func TestSectorsThatThereAreNot(t *testing.T) {
	for _, count := range []int{1, 2, 4096} {
		d := made(t, 64, count)
		for _, i := range []int{math.MinInt, -count - 1, -count, -2, -1, count, count + 1, 2 * count, 1 << 32, math.MaxInt} {
			if b, e := d.Read(i); len(b) > 0 || e != api.ErrRange {
				t.Errorf("P12.1: Read of %d of %d sectors: %x, %v", i, count, b, e)
			}
			must(t, "Write", d.Write(i, full(64, 'a')), api.ErrRange)
			must(t, "Write of too few bytes", d.Write(i, full(63, 'a')), api.ErrRange)
			must(t, "Spoil", d.Spoil(i, 0, 1), api.ErrRange)
		}
		holdStand(t, d, true, 0, 0)
	}
}

func TestWriteAsksForASectorsBytes(t *testing.T) {
	for _, size := range []int{64, 65, 511, 512} {
		d := made(t, size, 2)
		for _, n := range []int{0, 1, size / 2, size - 1, size + 1, 2 * size, 1 << 16} {
			must(t, "Write", d.Write(1, full(n, 'a')), api.ErrForm)
			holdStand(t, d, true, 0, 0)
			holdRead(t, "P12.1", d, 1, make([]byte, size))
		}
		must(t, "Write", d.Write(1, full(size, 'a')), api.OK)
		holdStand(t, d, true, 0, 1)
	}
}

func TestADiskThatIsDown(t *testing.T) {
	d := made(t, 64, 2)
	must(t, "Write", d.Write(0, full(64, 'a')), api.OK)
	must(t, "Write", d.Write(1, full(64, 'b')), api.OK)
	for range 3 {
		// Who is down already doesn't fall anew.
		d.Fall()
		holdStand(t, d, false, 1, 2)
		for _, i := range []int{-1, 0, 1, 2} {
			if b, e := d.Read(i); len(b) > 0 || e != api.ErrDown {
				t.Errorf("P12.1: Read of %d while it is down: %x, %v", i, b, e)
			}
			must(t, "Write", d.Write(i, full(64, 'c')), api.ErrDown)
			must(t, "Write of too many bytes", d.Write(i, full(65, 'c')), api.ErrDown)
		}
		must(t, "Sync", d.Sync(), api.ErrDown)
		holdStand(t, d, false, 1, 2)
		if d.Size() != 64 || d.Count() != 2 {
			t.Errorf("P12.1: Size %d, Count %d while it is down", d.Size(), d.Count())
		}
	}
	d.Back(9, false)
	holdStand(t, d, true, 1, 0)
	holdRead(t, "P12.1", d, 0, full(64, 'a'))
	holdRead(t, "P12.1", d, 1, full(64, 'b'))
}

func TestBackDecidesWhatWaits(t *testing.T) {
	const size = 65
	for _, x := range []struct {
		keep int
		torn bool
		want [3][]byte
	}{
		{math.MinInt, false, [3][]byte{full(size, 'x'), full(size, 'y'), full(size, 0)}},
		{-1, true, [3][]byte{full(size, 'x'), full(size, 'y'), full(size, 0)}},
		{0, false, [3][]byte{full(size, 'x'), full(size, 'y'), full(size, 0)}},
		{0, true, [3][]byte{full(size, 'x'), full(size, 'y'), full(size, 0)}},
		{1, false, [3][]byte{full(size, 'a'), full(size, 'y'), full(size, 0)}},
		{1, true, [3][]byte{halves(size, 'a', 'x'), full(size, 'y'), full(size, 0)}},
		{2, false, [3][]byte{full(size, 'b'), full(size, 'y'), full(size, 0)}},
		{2, true, [3][]byte{halves(size, 'b', 'a'), full(size, 'y'), full(size, 0)}},
		{3, false, [3][]byte{full(size, 'b'), full(size, 'y'), full(size, 'c')}},
		{3, true, [3][]byte{full(size, 'b'), full(size, 'y'), halves(size, 'c', 0)}},
		{4, false, [3][]byte{full(size, 'd'), full(size, 'y'), full(size, 'c')}},
		{4, true, [3][]byte{halves(size, 'd', 'b'), full(size, 'y'), full(size, 'c')}},
		{5, true, [3][]byte{halves(size, 'd', 'b'), full(size, 'y'), full(size, 'c')}},
		{math.MaxInt, false, [3][]byte{full(size, 'd'), full(size, 'y'), full(size, 'c')}},
		{math.MaxInt, true, [3][]byte{halves(size, 'd', 'b'), full(size, 'y'), full(size, 'c')}},
	} {
		for _, falls := range []bool{false, true} {
			d := made(t, size, 3)
			must(t, "Write", d.Write(0, full(size, 'x')), api.OK)
			must(t, "Write", d.Write(1, full(size, 'y')), api.OK)
			must(t, "Sync", d.Sync(), api.OK)
			for _, w := range []struct {
				i int
				c byte
			}{{0, 'a'}, {0, 'b'}, {2, 'c'}, {0, 'd'}} {
				must(t, "Write", d.Write(w.i, full(size, w.c)), api.OK)
			}
			if falls {
				d.Fall()
			}
			// A disk that is on falls first.
			d.Back(x.keep, x.torn)
			holdStand(t, d, true, 1, 0)
			for i, want := range x.want {
				holdRead(t, "P12.1", d, i, want)
			}
			// What was lost stays so.
			must(t, "Sync", d.Sync(), api.OK)
			d.Back(9, true)
			holdStand(t, d, true, 2, 0)
			for i, want := range x.want {
				holdRead(t, "P12.2", d, i, want)
			}
		}
	}
}

func TestTornIsTheFirstHalfRoundedDown(t *testing.T) {
	for _, size := range []int{64, 65, 66, 67, 255, 256, 257, 511, 512} {
		d := made(t, size, 2)
		must(t, "Write", d.Write(1, full(size, 'a')), api.OK)
		d.Back(1, true)
		holdRead(t, "P12.1", d, 1, halves(size, 'a', 0))
		must(t, "Write", d.Write(1, full(size, 'b')), api.OK)
		must(t, "Sync", d.Sync(), api.OK)
		must(t, "Write", d.Write(1, full(size, 'c')), api.OK)
		d.Fall()
		d.Back(1, true)
		holdRead(t, "P12.1", d, 1, halves(size, 'c', 'b'))
	}
}

func TestTheFuseCountsWhatIsDone(t *testing.T) {
	for n := range 5 {
		for _, ends := range []string{"write", "sync"} {
			d := made(t, 64, 2)
			must(t, "Write", d.Write(0, full(64, 'x')), api.OK)
			d.Fuse(n)
			want := byte('x')
			for k := range n {
				// What is refused, and what is no write or sync, isn't counted.
				must(t, "Write", d.Write(2, full(64, 'z')), api.ErrRange)
				must(t, "Write", d.Write(0, full(63, 'z')), api.ErrForm)
				must(t, "Spoil", d.Spoil(1, 0, 0), api.OK)
				holdRead(t, "P12.1", d, 0, full(64, want))
				if k%2 == 0 {
					must(t, "Sync", d.Sync(), api.OK)
				} else {
					want = 'a' + byte(k)
					must(t, "Write", d.Write(0, full(64, want)), api.OK)
				}
			}
			holdFuseEnds(t, d, ends)
		}
	}
}

// holdFuseEnds holds that a disk, whose fuse lets nothing more be done, falls at a write, or at a sync.
func holdFuseEnds(t *testing.T, d *sector.Disk, ends string) {
	t.Helper()
	was, _ := d.Read(0)
	waits := d.Waits()
	// At what is refused it doesn't fall.
	must(t, "Write", d.Write(-1, full(64, 'z')), api.ErrRange)
	must(t, "Write", d.Write(1, nil), api.ErrForm)
	holdStand(t, d, true, 0, waits)
	last := make([]byte, 64)
	if ends == "write" {
		last = full(64, 'L')
		waits++
		must(t, "Write behind the fuse", d.Write(1, last), api.ErrDown)
	} else {
		must(t, "Sync behind the fuse", d.Sync(), api.ErrDown)
	}
	holdStand(t, d, false, 1, waits)
	d.Back(waits, false)
	// The write at which it fell waited with the others; what waited ahead of a sync does still.
	holdRead(t, "P12.1", d, 0, was)
	holdRead(t, "P12.1", d, 1, last)
	for range 9 {
		must(t, "Write without a fuse", d.Write(0, was), api.OK)
		must(t, "Sync without a fuse", d.Sync(), api.OK)
	}
}

func TestASyncBehindTheFuseDoesNothing(t *testing.T) {
	d := made(t, 64, 1)
	must(t, "Write", d.Write(0, full(64, 'a')), api.OK)
	must(t, "Write", d.Write(0, full(64, 'b')), api.OK)
	d.Fuse(0)
	must(t, "Sync", d.Sync(), api.ErrDown)
	holdStand(t, d, false, 1, 2)
	d.Back(1, false)
	holdRead(t, "P12.1", d, 0, full(64, 'a'))
}

func TestTheWriteBehindTheFuseWaits(t *testing.T) {
	for _, x := range []struct {
		keep int
		torn bool
		want []byte
	}{{0, false, full(64, 0)}, {1, false, full(64, 'a')}, {2, true, halves(64, 'b', 'a')}, {2, false, full(64, 'b')}} {
		d := made(t, 64, 1)
		d.Fuse(1)
		must(t, "Write", d.Write(0, full(64, 'a')), api.OK)
		must(t, "Write", d.Write(0, full(64, 'b')), api.ErrDown)
		must(t, "Write", d.Write(0, full(64, 'c')), api.ErrDown)
		holdStand(t, d, false, 1, 2)
		d.Back(x.keep, x.torn)
		holdRead(t, "P12.1", d, 0, x.want)
	}
}

func TestAFuseInsteadOfAnother(t *testing.T) {
	for _, x := range []struct{ first, behind, then, done int }{
		{0, 0, 3, 3}, {5, 2, 1, 1}, {1, 1, 1, 1}, {3, 2, math.MinInt, 0}, {9, 0, -1, 0}, {2, 2, math.MaxInt, 50},
	} {
		d := made(t, 64, 1)
		d.Fuse(x.first)
		for range x.behind {
			must(t, "Sync", d.Sync(), api.OK)
		}
		d.Fuse(x.then)
		for range x.done {
			must(t, "Sync", d.Sync(), api.OK)
		}
		holdStand(t, d, true, 0, 0)
		if x.then < 50 {
			must(t, "Sync behind the fuse", d.Sync(), api.ErrDown)
			holdStand(t, d, false, 1, 0)
		}
	}
}

func TestABackDiskHasNoFuse(t *testing.T) {
	for _, light := range []func(d *sector.Disk){
		func(d *sector.Disk) { d.Fuse(0) },
		func(d *sector.Disk) { d.Fuse(0); d.Fall() },
		func(d *sector.Disk) { d.Fall(); d.Fuse(0) },
		func(d *sector.Disk) { d.Fuse(2); d.Sync(); d.Sync(); d.Sync(); d.Fuse(1) },
	} {
		d := made(t, 64, 1)
		light(d)
		d.Back(0, false)
		holdStand(t, d, true, 1, 0)
		for range 5 {
			must(t, "Write", d.Write(0, full(64, 'a')), api.OK)
			must(t, "Sync", d.Sync(), api.OK)
		}
		d.Fuse(0)
		must(t, "Sync", d.Sync(), api.ErrDown)
	}
}

func TestSpoilTurnsBitsOfWhatStays(t *testing.T) {
	const size = 65
	for _, at := range []int{0, 1, size / 2, size - 1} {
		for by := range 256 {
			d := made(t, size, 2)
			must(t, "Write", d.Write(1, full(size, 'a')), api.OK)
			must(t, "Sync", d.Sync(), api.OK)
			if by%2 == 0 {
				d.Fall()
			}
			must(t, "Spoil", d.Spoil(1, at, uint8(by)), api.OK)
			must(t, "Spoil of zeros", d.Spoil(0, at, uint8(by)), api.OK)
			holdStand(t, d, by%2 != 0, uint64(1-by%2), 0)
			if by%2 == 0 {
				d.Back(0, false)
			}
			want, zeros := full(size, 'a'), make([]byte, size)
			want[at] ^= byte(by)
			zeros[at] = byte(by)
			holdRead(t, "P12.1", d, 1, want)
			holdRead(t, "P12.1", d, 0, zeros)
			// Turned once more they are as they were.
			must(t, "Spoil", d.Spoil(1, at, uint8(by)), api.OK)
			holdRead(t, "P12.1", d, 1, full(size, 'a'))
		}
	}
}

func TestSpoilOutside(t *testing.T) {
	for _, size := range []int{64, 511} {
		for _, falls := range []bool{false, true} {
			d := made(t, size, 3)
			if falls {
				d.Fall()
			}
			for _, x := range [][2]int{{-1, 0}, {3, 0}, {0, -1}, {0, size}, {2, size}, {1, -size}, {1, size + 1}, {-1, -1}, {3, size},
				{math.MinInt, math.MinInt}, {math.MaxInt, math.MaxInt}, {0, math.MaxInt}, {0, math.MinInt}, {math.MaxInt, 0}} {
				must(t, "Spoil", d.Spoil(x[0], x[1], 255), api.ErrRange)
			}
			d.Back(0, false)
			for i := range 3 {
				holdRead(t, "P12.1", d, i, make([]byte, size))
			}
		}
	}
}

func TestSpoilLeavesWhatWaits(t *testing.T) {
	d := made(t, 64, 1)
	must(t, "Write", d.Write(0, full(64, 'a')), api.OK)
	must(t, "Spoil", d.Spoil(0, 3, 255), api.OK)
	must(t, "Spoil", d.Spoil(0, 60, 7), api.OK)
	holdRead(t, "P12.1", d, 0, full(64, 'a'))
	holdStand(t, d, true, 0, 1)
	// Torn, it lies over the front of what is spoilt.
	d.Back(1, true)
	want := halves(64, 'a', 0)
	want[60] = 7
	holdRead(t, "P12.1", d, 0, want)
	must(t, "Write", d.Write(0, full(64, 'b')), api.OK)
	must(t, "Spoil", d.Spoil(0, 1, 1), api.OK)
	d.Back(0, false)
	want[1] = 'a' ^ 1
	holdRead(t, "P12.1", d, 0, want)
	must(t, "Write", d.Write(0, full(64, 'c')), api.OK)
	must(t, "Spoil", d.Spoil(0, 1, 1), api.OK)
	must(t, "Sync", d.Sync(), api.OK)
	holdRead(t, "P12.1", d, 0, full(64, 'c'))
}

func TestFallsAreCounted(t *testing.T) {
	d := made(t, 64, 1)
	for i := range uint64(300) {
		switch i % 3 {
		case 0:
			d.Fall()
			d.Fall()
		case 1:
			d.Fuse(0)
			must(t, "Sync", d.Sync(), api.ErrDown)
			must(t, "Sync", d.Sync(), api.ErrDown)
		}
		holdStand(t, d, i%3 == 2, i+min(1, 2-i%3), 0)
		d.Back(0, false)
		holdStand(t, d, true, i+1, 0)
	}
}

func TestAnUnsyncedWriteIsLost(t *testing.T) {
	d := made(t, 64, 2)
	must(t, "Write", d.Write(0, full(64, 'a')), api.OK)
	must(t, "Sync", d.Sync(), api.OK)
	must(t, "Write", d.Write(0, full(64, 'b')), api.OK)
	must(t, "Write", d.Write(1, full(64, 'b')), api.OK)
	d.Back(0, false)
	holdRead(t, "P12.2", d, 0, full(64, 'a'))
	holdRead(t, "P12.2", d, 1, make([]byte, 64))
}
