package sum_test

import (
	"bytes"
	"hash/crc32"
	"math/rand"
	"testing"

	"scrutineer/api"
	"scrutineer/sum"
)

func TestMarkTable(t *testing.T) {
	for _, c := range []struct{ b, want string }{
		{"", "\x00\x00\x00\x00"},
		{"123456789", "123456789\x26\x39\xf4\xcb"},
		{"\x00", "\x00\x8d\xef\x02\xd2"},
		{"\xff", "\xff\x00\x00\x00\xff"},
		{"\x00\x00\x00\x00", "\x00\x00\x00\x00\x1c\xdf\x44\x21"},
	} {
		if got := sum.Mark([]byte(c.b)); string(got) != c.want {
			t.Errorf("P2.1: Mark of %q: %q, not %q", c.b, got, c.want)
		}
	}
}

func TestMarkIsTheSumBehindTheBytes(t *testing.T) {
	rnd := rand.New(rand.NewSource(5))
	for n := range 300 {
		b := rowOf(rnd, n)
		s := crc32.ChecksumIEEE(b)
		want := append(bytes.Clone(b), byte(s), byte(s>>8), byte(s>>16), byte(s>>24))
		if got := sum.Mark(b); !bytes.Equal(got, want) {
			t.Errorf("P2.1: Mark of %x: %x, not %x", b, got, want)
		}
	}
}

func TestFitsTable(t *testing.T) {
	for _, c := range []struct {
		b, want string
		e       api.Errno
	}{
		{"\x00\x00\x00\x00", "", api.OK},
		{"123456789\x26\x39\xf4\xcb", "123456789", api.OK},
		{"\xff\x00\x00\x00\xff", "\xff", api.OK},
		{"\x00\x00\x00\x00\x1c\xdf\x44\x21", "\x00\x00\x00\x00", api.OK},

		// P0.2: too few bytes aren't held against a sum.
		{"", "", api.ErrShort},
		{"\x00", "", api.ErrShort},
		{"abc", "", api.ErrShort},
		{"\x00\x00\x00", "", api.ErrShort},
		{"\xff\xff\xff", "", api.ErrShort},

		{"\x01\x00\x00\x00", "", api.ErrSum},
		{"\x00\x00\x00\x01", "", api.ErrSum},
		{"\xff\xff\xff\xff", "", api.ErrSum},
		{"\x00\x00\x00\x00\x00", "", api.ErrSum},
		{"\x00\x00\x00\x00\x00\x00\x00\x00", "", api.ErrSum},
		{"123456789", "", api.ErrSum},
		{"123456789\xcb\xf4\x39\x26", "", api.ErrSum},
		{"\x26\x39\xf4\xcb123456789", "", api.ErrSum},
		{"123456789\x26\x39\xf4", "", api.ErrSum},
		{"123456789\x26\x39\xf4\xcb\x00", "", api.ErrSum},
		{"\x00123456789\x26\x39\xf4\xcb", "", api.ErrSum},
		{"123456789\xd9\xc6\x0b\x34", "", api.ErrSum},
	} {
		got, e := sum.Fits([]byte(c.b))
		if e != c.e || string(got) != c.want {
			t.Errorf("P2.1: Fits of %q: %q, %v, not %q, %v", c.b, got, e, c.want, c.e)
		}
		if e != api.OK && len(got) > 0 {
			t.Errorf("P0.2: Fits of %q answers %q beside %v", c.b, got, e)
		}
	}
}

func TestWhatIsMarkedFits(t *testing.T) {
	rnd := rand.New(rand.NewSource(6))
	for n := range 300 {
		b := rowOf(rnd, n)
		if got, e := sum.Fits(sum.Mark(b)); e != api.OK || !bytes.Equal(got, b) {
			t.Errorf("P2.1: Fits of %x, marked: %x, %v", b, got, e)
		}
		once := sum.Mark(b)
		if got, e := sum.Fits(sum.Mark(once)); e != api.OK || !bytes.Equal(got, once) {
			t.Errorf("P2.1: Fits of %x, marked twice: %x, %v", b, got, e)
		}
	}
}

// spoilt tells whether marked bytes are refused, of which those from a place on are others.
func spoilt(marked []byte, at int, turned ...byte) bool {
	b := bytes.Clone(marked)
	for i, c := range turned {
		b[at+i] ^= c
	}
	got, e := sum.Fits(b)
	return e == api.ErrSum && len(got) == 0
}

// rows are marked rows, short ones and one that is longer.
func rows(rnd *rand.Rand) [][]byte {
	l := [][]byte{sum.Mark(make([]byte, 9)), sum.Mark(bytes.Repeat([]byte{255}, 9)), sum.Mark(rowOf(rnd, 100))}
	for n := range 12 {
		l = append(l, sum.Mark(rowOf(rnd, n)))
	}
	return l
}

func TestOneOtherByteDoesNotFit(t *testing.T) {
	for _, m := range rows(rand.New(rand.NewSource(7))) {
		for at := range m {
			for c := 1; c < 256; c++ {
				if !spoilt(m, at, byte(c)) {
					t.Errorf("P2.2: %x fits with %02x put to byte %d", m, c, at)
				}
			}
		}
	}
}

func TestOtherBitsInFourBytesDoNotFit(t *testing.T) {
	for _, m := range rows(rand.New(rand.NewSource(8))) {
		for at := range len(m) - 3 {
			for first := range 32 {
				for last := range first {
					var four [4]byte
					four[first/8] |= 1 << (first % 8)
					four[last/8] |= 1 << (last % 8)
					if !spoilt(m, at, four[:]...) {
						t.Errorf("P2.2: %x fits with %x put to it from byte %d on", m, four, at)
					}
				}
			}
		}
	}
}

func TestFourOtherBytesDoNotFit(t *testing.T) {
	rnd := rand.New(rand.NewSource(9))
	all := rows(rnd)
	for range 300_000 {
		m := all[rnd.Intn(len(all))]
		at := rnd.Intn(len(m) - 3)
		four := rowOf(rnd, 4)
		clear(four[1+rnd.Intn(4):])
		four[0] |= 1
		if !spoilt(m, at, four...) {
			t.Fatalf("P2.2: %x fits with %x put to it from byte %d on", m, four, at)
		}
	}
	for _, m := range all {
		for at := range len(m) - 3 {
			// What is put to the register, in both orders, and what begins and ends it.
			for _, four := range []string{"\x20\x83\xb8\xed", "\xed\xb8\x83\x20", "\x41\x06\x71\xdb", "\x04\xc1\x1d\xb7", "\xff\xff\xff\xff", "\x80\x00\x00\x01", "\x01\x00\x00\x80"} {
				if !spoilt(m, at, []byte(four)...) {
					t.Errorf("P2.2: %x fits with %x put to it from byte %d on", m, four, at)
				}
			}
		}
	}
}

func TestMarkLeavesWhatIsHandedIn(t *testing.T) {
	room := []byte("bytes and the room behind them")
	keep := bytes.Clone(room)
	b := room[:5]
	first, second := sum.Mark(b), sum.Mark(b)
	want := bytes.Clone(second)
	overwrite(first)
	if !bytes.Equal(room, keep) {
		t.Errorf("P0.3: the bytes, and the room behind them, are %q", room)
	}
	if !bytes.Equal(second, want) {
		t.Error("P0.3: two answers of Mark share memory")
	}
	if third := sum.Mark(b); !bytes.Equal(third, want) {
		t.Errorf("P0.5: Mark answers %x, and then %x", want, third)
	}
	b[0] = 'X'
	if !bytes.Equal(second, want) {
		t.Error("P0.3: a write into the bytes changed what Mark answered")
	}
}

func TestFitsLeavesWhatIsHandedIn(t *testing.T) {
	room := append(sum.Mark([]byte("bytes")), "and room"...)
	keep := bytes.Clone(room)
	b := room[:len("bytes")+4]
	first, _ := sum.Fits(b)
	second, _ := sum.Fits(b)
	overwrite(first)
	if !bytes.Equal(room, keep) {
		t.Errorf("P0.3: the bytes, and the room behind them, are %q", room)
	}
	if string(second) != "bytes" {
		t.Errorf("P0.3: two answers of Fits share memory: %q", second)
	}
	if third, e := sum.Fits(b); e != api.OK || string(third) != "bytes" {
		t.Errorf("P0.5: Fits answers %q, %v at last", third, e)
	}
	clear(room)
	if string(second) != "bytes" {
		t.Errorf("P0.3: a write into the bytes changed what Fits answered: %q", second)
	}
	other := bytes.Clone(keep)
	if _, e := sum.Fits(other); e != api.ErrSum || !bytes.Equal(other, keep) {
		t.Errorf("P0.3: bytes that don't fit are %q behind it, %v", other, e)
	}
}

// overwrite writes into a list, and into the room behind it.
func overwrite(b []byte) {
	whole := b[:cap(b)]
	for i := range whole {
		whole[i] = 9
	}
}

func TestEveryCallEnds(t *testing.T) {
	defer func() {
		if p := recover(); p != nil {
			t.Errorf("P0.1: a call panics: %v", p)
		}
	}()
	rnd := rand.New(rand.NewSource(10))
	for n := range 40 {
		for _, b := range [][]byte{nil, make([]byte, n), bytes.Repeat([]byte{255}, n), rowOf(rnd, n)} {
			sum.Of(b)
			sum.More(rnd.Uint32(), b)
			sum.Mark(b)
			sum.Fits(b)
		}
	}
}
