package reg_test

import (
	"bytes"
	"math"
	"math/rand"
	"strings"
	"testing"

	"scrutineer/api"
	"scrutineer/pack"
	"scrutineer/reg"
)

// high is the highest number's bytes.
const high = "\xff\xff\xff\xff\xff\xff\xff\xff\xff\x01"

func TestPutRegister(t *testing.T) {
	for _, x := range []struct {
		r    api.Reg
		want string
	}{
		{api.Reg{}, "\x00"},
		{api.Reg{Vars: []int64{}, Done: []api.Done{}, Out: []api.Cell{}, Marks: []api.Mark{}}, "\x00"},
		{api.Reg{Kind: api.Live, Inc: 1}, "\x01\x01\x00\x00\x00\x00\x00\x00"},
		{api.Reg{Kind: api.Tomb, Inc: 300, Last: 5}, "\x02\xac\x02\x00\x00\x00\x00\x05\x00"},
		{api.Reg{Kind: api.Live, Inc: math.MaxUint64, Last: math.MaxUint64}, "\x01" + high + "\x00\x00\x00\x00" + high + "\x00"},
		{
			plain(), "\x01\x05\x02" + "\x02\x01\xd8\x04" +
				"\x02" + "\x02\x07\x0d\x06\x01\x02\x08\x09" + "\x04\x08\x00\x00\x00\x00" +
				"\x02" + "\x03\x09\x01\x09" + "\x05\x00\x00\x0c" +
				"\x07" +
				"\x02" + "\x01\x02\x03" + "\x0b\x04\x05",
		},
		{
			tomb(), "\x02\x05\x00" + "\x00" +
				"\x02" + "\x02\x07\x0d\x06\x01\x02\x08\x09" + "\x04\x08\x00\x00\x00\x00" +
				"\x00" +
				"\x07" +
				"\x02" + "\x01\x02\x03" + "\x0b\x04\x05",
		},
	} {
		for _, ahead := range []string{"", "ahead", "\x00\xff"} {
			if b, e := reg.Put([]byte(ahead), x.r); string(b) != ahead+x.want || e != api.OK {
				t.Errorf("P6.1: Put of %v behind %q: %q, %v, not %q", x.r, ahead, b, e, x.want)
			}
		}
		if r, e := get([]byte(x.want)); !same(r, x.r) || e != api.OK {
			t.Errorf("P6.1: Get of %q: %v, %v, not %v", x.want, r, e, x.r)
		}
	}
}

func TestPutOfRegistersThatMayNotBe(t *testing.T) {
	for _, r := range []api.Reg{
		{Inc: 1},
		{Kind: api.Live},
		{Kind: api.Tomb},
		{Kind: 3, Inc: 1},
		{Kind: api.Live, Inc: 1, State: -1},
		{Kind: api.Live, Inc: 1, State: 32},
		{Kind: api.Live, Inc: 1, Vars: make([]int64, 9)},
		{Kind: api.Live, Inc: 1, Done: []api.Done{{Client: 1}}},
		{Kind: api.Live, Inc: 1, Done: []api.Done{{Client: 1, Seq: 1, Reply: api.Reply{Err: -1}}}},
		{Kind: api.Live, Inc: 1, Out: []api.Cell{{N: 1}}},
		{Kind: api.Tomb, Inc: 1, Out: []api.Cell{{N: 1}}, Last: 1},
		{Kind: api.Live, Inc: 1, Marks: []api.Mark{{}}},
	} {
		for _, ahead := range []string{"", "ahead"} {
			if b, e := reg.Put([]byte(ahead), r); len(b) > 0 || e != api.ErrForm {
				t.Errorf("P6.1: Put of %v: %x, %v", r, b, e)
			}
		}
	}
}

func TestGetRegister(t *testing.T) {
	const (
		k1000 = "\xe8\x07"
		k1001 = "\xe9\x07"
		k255  = "\xff\x01"
		k256  = "\x80\x02"
		zero2 = "\x80\x00"
		// head goes up to the State, done up to the first entry, out up to the first cell, marks up to the first one.
		head  = "\x01\x05"
		done  = head + "\x00\x00\x01"
		out   = head + "\x00\x00\x00\x01"
		marks = head + "\x00\x00\x00\x00\x07\x01"
		// rest is all behind an entry of Done, last all behind a cell.
		rest = "\x00\x00\x00"
		last = "\x07\x00"
	)
	for _, x := range []struct {
		b string
		e api.Errno
	}{
		{"", api.ErrShort},
		{"\x01", api.ErrShort},
		{"\x02", api.ErrShort},
		{"\x03", api.ErrShort},
		{"\x01\x00", api.ErrShort},
		{"\x01\x81", api.ErrShort},
		{head, api.ErrShort},
		{head + "\x00", api.ErrShort},
		{head + "\x00\x01", api.ErrShort},
		{head + "\x00\x08\x00\x00\x00\x00\x00\x00\x00", api.ErrShort},
		{head + "\x00\x00", api.ErrShort},
		{done, api.ErrShort},
		{done + "\x01", api.ErrShort},
		{done + "\x01\x01", api.ErrShort},
		{done + "\x01\x01\x00", api.ErrShort},
		{done + "\x01\x01\x00\x00", api.ErrShort},
		{done + "\x01\x01\x00\x00\x00", api.ErrShort},
		{done + "\x01\x01\x00\x00\x00\x01", api.ErrShort},
		{done + "\x01\x01\x00\x00\x00\x00", api.ErrShort},
		{out, api.ErrShort},
		{out + "\x01", api.ErrShort},
		{out + "\x01\x00", api.ErrShort},
		{out + "\x01\x00\x00", api.ErrShort},
		{out + "\x01\x00\x00\x00", api.ErrShort},
		{out + "\x01\x00\x00\x00\x07", api.ErrShort},
		{marks, api.ErrShort},
		{marks + "\x01", api.ErrShort},
		{marks + "\x01\x01", api.ErrShort},

		{"\x00", api.OK},
		{head + "\x00\x00\x00\x00\x00\x00", api.OK},
		{"\x02\x01\x00\x00\x00\x00\x00\x00", api.OK},
		{head + "\x1f\x00\x00\x00\x00\x00", api.OK},
		{head + "\x00\x08" + strings.Repeat(high, 8) + "\x00\x00\x00\x00", api.OK},
		{done + "\x08" + high + "\x63" + high + "\x1f\x01" + high + rest, api.OK},
		{out + high + "\x0f\x1f" + high + high + "\x00", api.OK},
		{marks + "\x0f" + high + high, api.OK},
		{"\x01" + high + "\x00\x00\x00\x00" + high + "\x00", api.OK},

		{zero2, api.ErrForm},
		{"\x01" + zero2 + "\x00\x00\x00\x00\x00\x00", api.ErrForm},
		{head + zero2, api.ErrForm},
		{head + "\x00" + zero2, api.ErrForm},
		{head + "\x00\x01" + zero2, api.ErrForm},
		{head + "\x00\x00" + zero2, api.ErrForm},
		{done + zero2, api.ErrForm},
		{done + "\x01" + zero2, api.ErrForm},
		{done + "\x01\x01" + zero2, api.ErrForm},
		{done + "\x01\x01\x00" + zero2, api.ErrForm},
		{done + "\x01\x01\x00\x00" + zero2, api.ErrForm},
		{done + "\x01\x01\x00\x00\x00" + zero2, api.ErrForm},
		{done + "\x01\x01\x00\x00\x00\x01" + zero2, api.ErrForm},
		{head + "\x00\x00\x00" + zero2, api.ErrForm},
		{out + zero2, api.ErrForm},
		{out + "\x01" + zero2, api.ErrForm},
		{out + "\x01\x00" + zero2, api.ErrForm},
		{out + "\x01\x00\x00" + zero2, api.ErrForm},
		{out + "\x01\x00\x00\x00" + zero2, api.ErrForm},
		{out + "\x01\x00\x00\x00\x07" + zero2, api.ErrForm},
		{marks + zero2, api.ErrForm},
		{marks + "\x01" + zero2, api.ErrForm},
		{marks + "\x01\x01" + zero2, api.ErrForm},
		{"\x01" + high[:9] + "\x02", api.ErrForm},

		// Numbers up to 255: a fault of another kind, above them ErrRange.
		{k255 + "\x05\x00\x00\x00\x00\x00\x00", api.ErrForm},
		{k256 + "\x05\x00\x00\x00\x00\x00\x00", api.ErrRange},
		{k256, api.ErrRange},
		{high, api.ErrRange},
		{done + k255 + "\x01\x00\x00\x00\x00" + rest, api.ErrForm},
		{done + k256, api.ErrRange},
		{out + "\x01" + k255 + "\x00\x00" + last, api.ErrForm},
		{out + "\x01" + k256, api.ErrRange},
		{marks + k255 + "\x01\x01", api.ErrForm},
		{marks + k256, api.ErrRange},
		{done + high, api.ErrRange},
		{out + "\x01" + high, api.ErrRange},
		{marks + high, api.ErrRange},

		// Numbers up to 1000.
		{head + k1000 + "\x00\x00\x00\x00\x00", api.ErrForm},
		{head + k1001, api.ErrRange},
		{head + high, api.ErrRange},
		{done + "\x01\x01" + k1000 + "\x00\x00\x00" + rest, api.ErrForm},
		{done + "\x01\x01" + k1001, api.ErrRange},
		{done + "\x01\x01" + high, api.ErrRange},
		{done + "\x01\x01\x00\x00" + k1000 + "\x00" + rest, api.ErrForm},
		{done + "\x01\x01\x00\x00" + k1001, api.ErrRange},
		{done + "\x01\x01\x00\x00" + high, api.ErrRange},
		{out + "\x01\x00" + k1000 + "\x00" + last, api.ErrForm},
		{out + "\x01\x00" + k1001, api.ErrRange},
		{out + "\x01\x00" + high, api.ErrRange},

		// How many: all of them are taken, and then they are too many.
		{head + "\x00" + k1000, api.ErrShort},
		{head + "\x00" + k1000 + strings.Repeat("\x00", 999), api.ErrShort},
		{head + "\x00" + k1000 + strings.Repeat("\x00", 1000) + "\x00\x00\x00\x00", api.ErrForm},
		{head + "\x00" + k1001, api.ErrRange},
		{head + "\x00" + high, api.ErrRange},
		{head + "\x00\x00" + k1000, api.ErrShort},
		{head + "\x00\x00" + k1000 + strings.Repeat("\x00\x00\x00\x00\x00\x00", 1000) + rest, api.ErrForm},
		{head + "\x00\x00" + k1001, api.ErrRange},
		{head + "\x00\x00" + high, api.ErrRange},
		{done + "\x01\x01\x00\x00\x00" + k1000, api.ErrShort},
		{done + "\x01\x01\x00\x00\x00" + k1000 + strings.Repeat("\x00", 1000) + rest, api.ErrForm},
		{done + "\x01\x01\x00\x00\x00" + k1001, api.ErrRange},
		{done + "\x01\x01\x00\x00\x00" + high, api.ErrRange},
		{head + "\x00\x00\x00" + k1000, api.ErrShort},
		{head + "\x00\x00\x00" + k1000 + strings.Repeat("\x00\x00\x00\x00", 1000) + "\x00\x00", api.ErrForm},
		{head + "\x00\x00\x00" + k1001, api.ErrRange},
		{head + "\x00\x00\x00" + high, api.ErrRange},
		{head + "\x00\x00\x00\x00\x00" + k1000, api.ErrShort},
		{head + "\x00\x00\x00\x00\x00" + k1000 + strings.Repeat("\x00\x00\x00", 1000), api.ErrForm},
		{head + "\x00\x00\x00\x00\x00" + k1001, api.ErrRange},
		{head + "\x00\x00\x00\x00\x00" + high, api.ErrRange},

		// What may not be.
		{"\x03\x05\x00\x00\x00\x00\x00\x00", api.ErrForm},
		{"\x01\x00\x00\x00\x00\x00\x00\x00", api.ErrForm},
		{"\x02\x00\x00\x00\x00\x00\x00\x00", api.ErrForm},
		{"\x02\x01\x01\x00\x00\x00\x00\x00", api.ErrForm},
		{"\x02\x01\x00\x01\x00\x00\x00\x00\x00", api.ErrForm},
		{"\x02\x01\x00\x00\x00\x01\x01\x00\x00\x00" + last, api.ErrForm},
		{head + "\x20\x00\x00\x00\x00\x00", api.ErrForm},
		{head + "\x00\x09" + strings.Repeat("\x00", 9) + "\x00\x00\x00\x00", api.ErrForm},
		{done + "\x09\x01\x00\x00\x00\x00" + rest, api.ErrForm},
		{done + "\x00\x01\x00\x00\x00\x00" + rest, api.ErrForm},
		{done + "\x01\x00\x00\x00\x00\x00" + rest, api.ErrForm},
		{done + "\x01\x01\x64\x00\x00\x00" + rest, api.ErrForm},
		{done + "\x01\x01\x00\x00\x20\x00" + rest, api.ErrForm},
		{out + "\x08\x00\x00\x00" + last, api.ErrForm},
		{out + "\x00\x00\x00\x00" + last, api.ErrForm},
		{out + "\x01\x10\x00\x00" + last, api.ErrForm},
		{out + "\x01\x00\x20\x00" + last, api.ErrForm},
		{marks + "\x10\x01\x01", api.ErrForm},
		{marks + "\x00\x00\x01", api.ErrForm},
		{marks + "\x00\x01\x00", api.ErrForm},

		// P0.2: the first that is met; that it may not be is asked behind all of them.
		{"\x03\x05" + k1001, api.ErrRange},
		{"\x01\x00" + k1001 + zero2, api.ErrRange},
		{"\x01\x00" + zero2 + k1001, api.ErrForm},
		{"\x01\x00\x20\x00", api.ErrShort},
		{k256 + zero2, api.ErrRange},
		{zero2 + k256, api.ErrForm},
		{head + "\x20\x09", api.ErrShort},
	} {
		r, e := get([]byte(x.b))
		if e != x.e {
			t.Errorf("P6.1: Get of %q: %v, not %v", x.b, e, x.e)
		}
		if e != api.OK && !same(r, api.Reg{}) {
			t.Errorf("P0.2: Get of %q: %v beside %v", x.b, r, e)
		}
		if b, f := reg.Put(nil, r); e == api.OK && (f != api.OK || string(b) != x.b) {
			t.Errorf("P6.2: %q is got, but put as %q, %v", x.b, b, f)
		}
	}
}

func TestGetOfReaders(t *testing.T) {
	if r := reg.Get(nil); !same(r, api.Reg{}) {
		t.Errorf("P6.1: Get of no reader: %v", r)
	}
	b := putModel(plain())
	// An error from before stays, and nothing is got.
	for _, e := range []api.Errno{api.ErrArg, api.ErrShort, api.ErrForm, api.ErrLong, api.ErrRange, api.ErrSum, 99, -1} {
		p := pack.New(b)
		p.Fail(e)
		if r := reg.Get(p); !same(r, api.Reg{}) || p.End() != e {
			t.Errorf("P6.1: Get of a reader with %v: %v, %v", e, r, p.End())
		}
	}
	p := pack.New(append([]byte{200, 1}, b...))
	p.Row(3)
	if r := reg.Get(p); !same(r, api.Reg{}) || p.End() != api.ErrLong {
		t.Errorf("P6.1: Get behind a row that is too long: %v, %v", r, p.End())
	}
	// Behind an error of its own nothing is taken any more.
	p = pack.New(append([]byte("\x03\x05\x00\x00\x00\x00\x00\x00"), b...))
	if r, s := reg.Get(p), reg.Get(p); !same(r, api.Reg{}) || !same(s, api.Reg{}) || p.End() != api.ErrForm {
		t.Errorf("P6.1: Get behind a register that may not be: %v, %v, %v", r, s, p.End())
	}
}

func TestGetOneBehindTheOther(t *testing.T) {
	rnd := rand.New(rand.NewSource(4))
	for range 1000 {
		var b []byte
		var l []api.Reg
		for range rnd.Intn(5) {
			r := register(rnd)
			l = append(l, r)
			b, _ = reg.Put(pack.PutNum(b, 300), r)
		}
		p := pack.New(pack.PutRow(b, []byte("row")))
		for _, want := range l {
			n := p.Num(300)
			if r := reg.Get(p); n != 300 || !same(r, want) || p.End() != api.ErrLong {
				t.Fatalf("P6.2: Get of %v among others: %d, %v, %v", want, n, r, p.End())
			}
		}
		if row := p.Row(3); string(row) != "row" || p.End() != api.OK {
			t.Fatalf("P6.2: behind registers there is %q, %v", row, p.End())
		}
	}
}

func TestWhatIsPutIsGot(t *testing.T) {
	rnd := rand.New(rand.NewSource(5))
	l := []api.Reg{{}, plain(), tomb(), largest()}
	for range 20_000 {
		l = append(l, register(rnd))
	}
	for _, x := range l {
		b, e := reg.Put(nil, x)
		y, f := get(b)
		again, g := reg.Put(nil, y)
		if e != api.OK || f != api.OK || g != api.OK || !same(x, y) || !reg.Same(x, y) || !bytes.Equal(again, b) {
			t.Fatalf("P6.2: %v is put, but %v is got: %v, %v, %v", x, y, e, f, g)
		}
	}
}

func TestEachNumberIsPutAndGot(t *testing.T) {
	for _, x := range []api.Reg{plain(), largest()} {
		for at := range numbersOf(&x) {
			for _, n := range append(counts, 4, 5, 6, 10, 15, 16, 31, 32, 99, 100) {
				r := clone(x, 0)
				set(numbersOf(&r)[at], n)
				b, e := reg.Put(nil, r)
				if e != api.OK {
					continue
				}
				if s, f := get(b); f != api.OK || !same(s, r) {
					t.Fatalf("P6.2: %v is put, but %v is got: %v", r, s, f)
				}
			}
		}
	}
}

// gotAsSaid holds Get of bytes against the model, and puts what is got.
func gotAsSaid(t *testing.T, b []byte) api.Errno {
	t.Helper()
	model := &getModel{b: b}
	want, e := model.reg()
	if e == api.OK && len(model.b) > 0 {
		e = api.ErrLong
	}
	got, f := get(b)
	if f != e || !same(got, want) {
		t.Fatalf("P6.1: Get of %x: %v, %v, not %v, %v", b, got, f, want, e)
	}
	if f == api.OK || f == api.ErrLong {
		taken := b[:len(b)-len(model.b)]
		if again, g := reg.Put(nil, got); g != api.OK || !bytes.Equal(again, taken) {
			t.Fatalf("P6.2: %x is got, but put as %x, %v", taken, again, g)
		}
	}
	return f
}

func TestGetOfCutBytes(t *testing.T) {
	for _, x := range []api.Reg{plain(), tomb(), largest()} {
		b, _ := reg.Put(nil, x)
		for n := range b {
			if r, e := get(b[:n]); e != api.ErrShort || !same(r, api.Reg{}) {
				t.Errorf("P6.1: Get of the first %d bytes of %x: %v, %v", n, b, r, e)
			}
		}
	}
}

func TestGetOfEachByteChanged(t *testing.T) {
	for _, x := range []api.Reg{{}, plain(), tomb()} {
		b, _ := reg.Put(nil, x)
		for at := range b {
			for n := range 256 {
				y := bytes.Clone(b)
				y[at] = byte(n)
				gotAsSaid(t, y)
			}
		}
	}
}

func TestGetOfSpoiltBytes(t *testing.T) {
	rnd := rand.New(rand.NewSource(6))
	parts := []string{"\x00", "\x01", "\x02", "\x08", "\x09", "\x0f", "\x10", "\x1f", "\x20", "\x63", "\x64", "\x80", "\x80\x00", "\xff\x01", "\x80\x02", "\xe8\x07", "\xe9\x07", high, high[:9] + "\x02", ""}
	came := map[api.Errno]int{}
	for range 50_000 {
		b, _ := reg.Put(nil, register(rnd))
		for range 1 + rnd.Intn(2) {
			at := rnd.Intn(len(b) + 1)
			end := min(at+rnd.Intn(2), len(b))
			b = append(append(bytes.Clone(b[:at]), one(rnd, parts)...), b[end:]...)
		}
		came[gotAsSaid(t, b)]++
	}
	for _, e := range []api.Errno{api.OK, api.ErrShort, api.ErrForm, api.ErrRange, api.ErrLong} {
		if came[e] < 500 {
			t.Errorf("P6.1: the bytes that are tried come to %v only %d times", e, came[e])
		}
	}
}

func TestGetOfAllPairsOfBytes(t *testing.T) {
	for n := range 1 << 16 {
		// At each place of a register that has nothing.
		for at := range 7 {
			b := []byte{1, 1, 0, 0, 0, 0, 0, 0}
			b[at], b[at+1] = byte(n>>8), byte(n)
			gotAsSaid(t, b)
		}
	}
}
