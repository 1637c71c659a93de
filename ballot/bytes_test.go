package ballot_test

import (
	"bytes"
	"encoding/binary"
	"math"
	"math/rand"
	"testing"

	"scrutineer/api"
	"scrutineer/ballot"
	"scrutineer/pack"
)

const (
	// life is the highest Life's bytes, over is those of a number that is one higher.
	life = "\xff\xff\xff\xff\x0f"
	over = "\x80\x80\x80\x80\x10"
	// high is the highest number's bytes.
	high = "\xff\xff\xff\xff\xff\xff\xff\xff\xff\x01"
)

// bytesOf are a ballot's bytes as the library puts them.
func bytesOf(b []byte, x api.Ballot) []byte {
	b = binary.AppendUvarint(bytes.Clone(b), x.Count)
	b = binary.AppendUvarint(b, uint64(x.Node))
	return binary.AppendUvarint(b, uint64(x.Life))
}

func TestPutTable(t *testing.T) {
	for _, c := range []struct {
		x    api.Ballot
		want string
	}{
		{api.Ballot{}, "\x00\x00\x00"},
		{api.Ballot{Count: 1, Node: 2, Life: 3}, "\x01\x02\x03"},
		{api.Ballot{Count: 300, Node: 255, Life: 128}, "\xac\x02\xff\x01\x80\x01"},
		{api.Ballot{Life: math.MaxUint32}, "\x00\x00" + life},
		{api.Ballot{Count: math.MaxUint64, Node: 127, Life: 1}, high + "\x7f\x01"},
	} {
		for _, head := range []string{"", "a", "\x80\x00\xff"} {
			if got := ballot.Put([]byte(head), c.x); string(got) != head+c.want {
				t.Errorf("P3.1: Put of %v behind %q: %q, not %q", c.x, head, got, head+c.want)
			}
		}
	}
	for _, x := range grid() {
		if got, want := ballot.Put(nil, x), bytesOf(nil, x); !bytes.Equal(got, want) {
			t.Errorf("P3.1: Put of %v: %x, not %x", x, got, want)
		}
	}
}

func TestGetTable(t *testing.T) {
	for _, c := range []struct {
		b    string
		want api.Ballot
		end  api.Errno
	}{
		{"\x00\x00\x00", api.Ballot{}, api.OK},
		{"\x01\x02\x03", api.Ballot{Count: 1, Node: 2, Life: 3}, api.OK},
		{high + "\xff\x01" + life, api.Ballot{Count: math.MaxUint64, Node: 255, Life: math.MaxUint32}, api.OK},
		{"\x01\x02\x03\x04", api.Ballot{Count: 1, Node: 2, Life: 3}, api.ErrLong},
		{"\x01\x02\x03\x80\x00", api.Ballot{Count: 1, Node: 2, Life: 3}, api.ErrLong},

		{"", api.Ballot{}, api.ErrShort},
		{"\x01", api.Ballot{}, api.ErrShort},
		{"\x01\x02", api.Ballot{}, api.ErrShort},
		{"\x80", api.Ballot{}, api.ErrShort},
		{"\x01\x82", api.Ballot{}, api.ErrShort},
		{"\x01\x02\x83", api.Ballot{}, api.ErrShort},

		{"\x80\x00\x01\x01", api.Ballot{}, api.ErrForm},
		{"\x01\x80\x00\x01", api.Ballot{}, api.ErrForm},
		{"\x01\x01\x80\x00", api.Ballot{}, api.ErrForm},
		{high[:9] + "\x02\x01\x01", api.Ballot{}, api.ErrForm},
		{"\x01\x02" + high[:9] + "\x02", api.Ballot{}, api.ErrForm},

		{"\x01\x80\x02\x03", api.Ballot{}, api.ErrRange},
		{"\x01\x80\x02", api.Ballot{}, api.ErrRange},
		{"\x01" + high + "\x03", api.Ballot{}, api.ErrRange},
		{"\x01\x02" + over, api.Ballot{}, api.ErrRange},
		{"\x01\x02" + over + "\x04", api.Ballot{}, api.ErrRange},
		{"\x01\x02" + high, api.Ballot{}, api.ErrRange},
		// P0.2: the first error that is met counts.
		{"\x01\x80\x02\x80\x00", api.Ballot{}, api.ErrRange},
		{"\x01\x80\x02" + over, api.Ballot{}, api.ErrRange},
		{"\x80\x00\x80\x02" + over, api.Ballot{}, api.ErrForm},
	} {
		r := pack.New([]byte(c.b))
		if got := ballot.Get(r); got != c.want {
			t.Errorf("P3.1: Get of %q: %v, not %v", c.b, got, c.want)
		}
		if e := r.End(); e != c.end {
			t.Errorf("P3.1: End behind Get of %q: %v, not %v", c.b, e, c.end)
		}
	}
}

func TestGetOfAReaderWithAnError(t *testing.T) {
	for _, e := range []api.Errno{
		api.ErrArg, api.ErrShort, api.ErrForm, api.ErrLong, api.ErrSum, api.ErrRange, api.ErrKind, 99, -1, math.MaxInt, math.MinInt,
	} {
		r := pack.New([]byte("\x01\x02\x03\x04\x05\x06"))
		r.Fail(e)
		for range 2 {
			if got := ballot.Get(r); !ballot.None(got) {
				t.Errorf("P3.1: Get of a reader whose error is %d: %v", int(e), got)
			}
			if x := r.End(); x != e {
				t.Errorf("P3.1: Get of a reader whose error is %d: it is %d then", int(e), int(x))
			}
		}
	}
	r := pack.New([]byte("\x05\x01\x02\x03"))
	r.Row(4)
	if got := ballot.Get(r); !ballot.None(got) || r.End() != api.ErrLong {
		t.Errorf("P3.1: Get behind a row that is too long: %v, %v", got, r.End())
	}
}

func TestGetTakesNoMoreThanABallot(t *testing.T) {
	r := pack.New([]byte("\x09\x01\x02\x03\x02rw\x04\x05\x06\x07"))
	if n := r.Num(9); n != 9 {
		t.Error("P3.1: what stands ahead of the ballot:", n)
	}
	if got := ballot.Get(r); got != (api.Ballot{Count: 1, Node: 2, Life: 3}) {
		t.Error("P3.1: the first ballot:", got)
	}
	if row := r.Row(2); string(row) != "rw" {
		t.Errorf("P3.1: what stands behind the first ballot: %q", row)
	}
	if got := ballot.Get(r); got != (api.Ballot{Count: 4, Node: 5, Life: 6}) {
		t.Error("P3.1: the second ballot:", got)
	}
	if got := ballot.Get(r); !ballot.None(got) || r.End() != api.ErrShort {
		t.Error("P3.1: behind the last ballot:", got, r.End())
	}
}

func TestWhatIsPutIsGot(t *testing.T) {
	l := grid()
	rnd := rand.New(rand.NewSource(4))
	for range 20_000 {
		l = append(l, some(rnd))
	}
	for _, x := range l {
		r := pack.New(ballot.Put(nil, x))
		if got := ballot.Get(r); got != x || r.End() != api.OK {
			t.Errorf("P3.3: %v is put, but %v is got, %v", x, got, r.End())
		}
	}
	var b []byte
	for _, x := range l[:200] {
		b = ballot.Put(b, x)
	}
	r := pack.New(b)
	for i, x := range l[:200] {
		if got := ballot.Get(r); got != x {
			t.Errorf("P3.3: ballot %d of a row is put as %v, but got as %v", i, x, got)
		}
	}
	if e := r.End(); e != api.OK {
		t.Error("P3.3: End of a row of ballots:", e)
	}
}

func TestWhatIsGotIsPutAsItStood(t *testing.T) {
	parts := []string{"\x00", "\x01", "\x7f", "\x80", "\x80\x00", "\x80\x01", "\xff\x01", "\x80\x02", life, over, high, ""}
	for _, count := range parts {
		for _, node := range parts {
			for _, last := range parts {
				b := count + node + last
				r := pack.New([]byte(b))
				x := ballot.Get(r)
				switch e := r.End(); e {
				case api.OK:
					if got := ballot.Put(nil, x); string(got) != b {
						t.Errorf("P3.3: %v is got of %x, but put as %x", x, b, got)
					}
				case api.ErrLong:
					if got := ballot.Put(nil, x); !bytes.HasPrefix([]byte(b), got) {
						t.Errorf("P3.3: %v is got of the front of %x, but put as %x", x, b, got)
					}
				default:
					if !ballot.None(x) {
						t.Errorf("P3.1: %v is got of %x beside %v", x, b, e)
					}
				}
			}
		}
	}
}

func TestPutLeavesWhatIsHandedIn(t *testing.T) {
	x := api.Ballot{Count: 300, Node: 200, Life: 100_000}
	room := bytes.Repeat([]byte{7}, 64)
	keep := bytes.Clone(room)
	b := room[:2]
	first, second := ballot.Put(b, x), ballot.Put(b, x)
	want := bytesOf(b, x)
	whole := first[:cap(first)]
	for i := range whole {
		whole[i] = 9
	}
	if !bytes.Equal(room, keep) {
		t.Errorf("P0.3: the bytes, and the room behind them, are %x", room)
	}
	if !bytes.Equal(second, want) {
		t.Errorf("P0.3: two answers of Put share memory: %x", second)
	}
	if third := ballot.Put(b, x); !bytes.Equal(third, want) {
		t.Errorf("P0.5: Put answers %x at last, not %x", third, want)
	}
	b[0] = 1
	if !bytes.Equal(second, want) {
		t.Error("P0.3: a write into the bytes changed what Put answered")
	}
}

func TestPutTakesNilAsEmpty(t *testing.T) {
	for _, x := range []api.Ballot{{}, {Count: 1, Node: 2, Life: 3}} {
		if a, b := ballot.Put(nil, x), ballot.Put([]byte{}, x); !bytes.Equal(a, b) {
			t.Errorf("P0.4: Put of %v behind nil: %x, behind empty bytes: %x", x, a, b)
		}
	}
}

func TestGetOfReadersOfNothing(t *testing.T) {
	for _, b := range [][]byte{nil, {}} {
		r := pack.New(b)
		if got := ballot.Get(r); !ballot.None(got) || r.End() != api.ErrShort {
			t.Errorf("P0.4: Get of a reader of nothing: %v, %v", got, r.End())
		}
	}
	for range 2 {
		if got := ballot.Get(nil); !ballot.None(got) {
			t.Errorf("P0.1: Get of a nil reader: %v", got)
		}
	}
}

func TestGetOfAZeroReaderIsLikeOfNil(t *testing.T) {
	// P0.6 lets it panic, too.
	defer func() { _ = recover() }()
	if got := ballot.Get(&pack.Reader{}); !ballot.None(got) {
		t.Errorf("P0.6: Get of a zero reader: %v", got)
	}
}

func TestEveryCallEnds(t *testing.T) {
	defer func() {
		if p := recover(); p != nil {
			t.Errorf("P0.1: a call panics: %v", p)
		}
	}()
	rnd := rand.New(rand.NewSource(5))
	for n := range 5000 {
		b := make([]byte, n%40)
		rnd.Read(b)
		if n%3 == 0 {
			for i := range b {
				b[i] |= 0x80
			}
		}
		r := pack.New(b)
		for range 4 {
			x := ballot.Get(r)
			y := some(rnd)
			ballot.Compare(x, y)
			ballot.None(x)
			ballot.Next(y.Count, y.Node, y.Life)
			ballot.Put(b, x)
		}
	}
}
