package sum_test

import (
	"bytes"
	"hash/crc32"
	"math"
	"math/rand"
	"strings"
	"testing"

	"scrutineer/sum"
)

// model is the sum as the chapter's words say it, bit by bit, with a list of bits as register, the lowest first.
func model(b []byte) uint32 {
	const put = 0xedb88320
	var reg [32]bool
	for i := range reg {
		reg[i] = true
	}
	for _, c := range b {
		for bit := range 8 {
			one := reg[0] != (c>>bit&1 == 1)
			copy(reg[:], reg[1:])
			reg[31] = false
			for i := range reg {
				reg[i] = reg[i] != (one && put>>i&1 == 1)
			}
		}
	}
	var n uint32
	for i := range reg {
		if !reg[i] {
			n |= 1 << i
		}
	}
	return n
}

// rowOf is a row of so many bytes.
func rowOf(rnd *rand.Rand, n int) []byte {
	b := make([]byte, n)
	rnd.Read(b)
	return b
}

func TestOfTable(t *testing.T) {
	for _, c := range []struct {
		b    string
		want uint32
	}{
		{"", 0},
		{"123456789", 0xcbf43926},
		{"a", 0xe8b7be43},
		{"abc", 0x352441c2},
		{"\x00", 0xd202ef8d},
		{"\xff", 0xff000000},
		{"\xff\xff\xff\xff", 0xffffffff},
		{strings.Repeat("\x00", 32), 0x190a55ad},
		{strings.Repeat("\xff", 32), 0xff6cab0b},
		{"The quick brown fox jumps over the lazy dog", 0x414fa339},
	} {
		if got := sum.Of([]byte(c.b)); got != c.want {
			t.Errorf("P2.1: Of %q: %08x, not %08x", c.b, got, c.want)
		}
	}
}

// sumsAsSaid holds a sum against the model, and against the library's.
func sumsAsSaid(t *testing.T, b []byte) {
	t.Helper()
	got := sum.Of(b)
	if want := model(b); got != want {
		t.Errorf("P2.1: Of %x: %08x, not %08x", b, got, want)
	}
	if want := crc32.ChecksumIEEE(b); got != want {
		t.Errorf("P2.1: Of %x: %08x, in the library %08x", b, got, want)
	}
}

func TestOfIsTheSum(t *testing.T) {
	for a := range 256 {
		sumsAsSaid(t, []byte{byte(a)})
		for b := 0; b < 256; b += 5 {
			sumsAsSaid(t, []byte{byte(a), byte(b)})
		}
	}
	rnd := rand.New(rand.NewSource(1))
	for n := range 300 {
		sumsAsSaid(t, rowOf(rnd, n))
	}
	long := rowOf(rnd, 1<<20+3)
	if got, want := sum.Of(long), crc32.ChecksumIEEE(long); got != want {
		t.Errorf("P2.1: Of %d bytes: %08x, not %08x", len(long), got, want)
	}
}

func TestMoreGoesOn(t *testing.T) {
	rnd := rand.New(rand.NewSource(2))
	for n := range 60 {
		b := rowOf(rnd, n)
		want := model(b)
		for at := range n + 1 {
			if got := sum.More(sum.Of(b[:at]), b[at:]); got != want {
				t.Errorf("P2.1: More of %x and %x: %08x, not %08x", b[:at], b[at:], got, want)
			}
		}
		var s uint32
		for i := range b {
			s = sum.More(s, b[i:i+1])
		}
		if s != want {
			t.Errorf("P2.1: More of %x byte by byte: %08x, not %08x", b, s, want)
		}
	}
}

func TestMoreOfAnySum(t *testing.T) {
	rnd := rand.New(rand.NewSource(3))
	sums := []uint32{0, 1, 15, 16, 1 << 31, math.MaxUint32, math.MaxUint32 - 1, 0xedb88320, 0xcbf43926}
	for range 200 {
		sums = append(sums, rnd.Uint32())
	}
	for _, s := range sums {
		if got := sum.More(s, nil); got != s {
			t.Errorf("P2.1: More of %08x and nothing: %08x", s, got)
		}
		for _, n := range []int{1, 2, 4, 5, 64} {
			b := rowOf(rnd, n)
			if got, want := sum.More(s, b), crc32.Update(s, crc32.IEEETable, b); got != want {
				t.Errorf("P2.1: More of %08x and %x: %08x, not %08x", s, b, got, want)
			}
		}
	}
}

func TestSumsOfBytesWithTheirMark(t *testing.T) {
	// The mark takes the register to the same end, whatever stands ahead of it.
	rnd := rand.New(rand.NewSource(4))
	for n := range 40 {
		if got := sum.Of(sum.Mark(rowOf(rnd, n))); got != 0x2144df1c {
			t.Errorf("P2.1: the sum of %d bytes with their mark: %08x", n, got)
		}
	}
}

func TestSumsLeaveWhatIsHandedIn(t *testing.T) {
	room := []byte("bytes and the room behind them")
	keep := bytes.Clone(room)
	b := room[:5]
	first := sum.Of(b)
	sum.More(7, b)
	if !bytes.Equal(room, keep) {
		t.Errorf("P0.3: the bytes, and the room behind them, are %q", room)
	}
	sum.Of([]byte("others"))
	if got := sum.Of(b); got != first {
		t.Errorf("P0.5: Of answers %08x, and then %08x", first, got)
	}
}

func TestSumsTakeNilAsEmpty(t *testing.T) {
	if a, b := sum.Of(nil), sum.Of([]byte{}); a != b || a != 0 {
		t.Errorf("P0.4: Of nil: %08x, of empty bytes: %08x", a, b)
	}
	if a, b := sum.More(9, nil), sum.More(9, []byte{}); a != b || a != 9 {
		t.Errorf("P0.4: More of nil: %08x, of empty bytes: %08x", a, b)
	}
	if a, b := sum.Mark(nil), sum.Mark([]byte{}); !bytes.Equal(a, b) {
		t.Errorf("P0.4: Mark of nil: %x, of empty bytes: %x", a, b)
	}
	_, x := sum.Fits(nil)
	_, y := sum.Fits([]byte{})
	if x != y {
		t.Errorf("P0.4: Fits of nil: %v, of empty bytes: %v", x, y)
	}
}
