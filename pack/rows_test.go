package pack_test

import (
	"bytes"
	"encoding/binary"
	"math"
	"math/big"
	"math/rand"
	"testing"

	"scrutineer/api"
	"scrutineer/pack"
)

// model is a reader as the chapter's words say it, with numbers that never run out of bits.
type model struct {
	left []byte
	err  api.Errno
}

func (m *model) fail(e api.Errno) {
	if m.err == api.OK {
		m.err = e
	}
}

func (m *model) big() *big.Int {
	n := new(big.Int)
	for i := 0; m.err == api.OK; i++ {
		if i == len(m.left) {
			m.fail(api.ErrShort)
			break
		}
		c := m.left[i]
		if (c == 0 && i > 0) || (i == 9 && c > 1) {
			m.fail(api.ErrForm)
			break
		}
		n.Add(n, new(big.Int).Lsh(big.NewInt(int64(c&127)), uint(7*i)))
		if c < 128 {
			m.left = m.left[i+1:]
			return n
		}
	}
	return new(big.Int)
}

func (m *model) num(most uint64) uint64 {
	n := m.big()
	if n.Cmp(new(big.Int).SetUint64(most)) > 0 {
		m.fail(api.ErrRange)
		return 0
	}
	return n.Uint64()
}

func (m *model) int() int64 {
	n := m.big()
	half := new(big.Int).Rsh(n, 1)
	if n.Bit(0) == 1 {
		half.Sub(big.NewInt(-1), half)
	}
	return half.Int64()
}

func (m *model) row(most int) []byte {
	n := m.big()
	if n.Cmp(big.NewInt(int64(max(most, 0)))) > 0 {
		m.fail(api.ErrLong)
	} else if n.Cmp(big.NewInt(int64(len(m.left)))) > 0 {
		m.fail(api.ErrShort)
	}
	if m.err != api.OK {
		return nil
	}
	row := m.left[:n.Int64()]
	m.left = m.left[n.Int64():]
	return row
}

func (m *model) end() api.Errno {
	if m.err == api.OK && len(m.left) > 0 {
		return api.ErrLong
	}
	return m.err
}

// bytesOf are bytes of which many are those of numbers, and whole rows.
func bytesOf(rnd *rand.Rand) []byte {
	var b []byte
	for range rnd.Intn(6) {
		switch rnd.Intn(5) {
		case 0:
			b = binary.AppendUvarint(b, uint64(rnd.Intn(9)))
		case 1:
			b = binary.AppendUvarint(b, rnd.Uint64()>>rnd.Intn(64))
		case 2:
			n := rnd.Intn(5)
			b = append(b, byte(n))
			b = append(b, bytes.Repeat([]byte{byte(rnd.Intn(256))}, n)...)
		case 3:
			b = append(b, bytes.Repeat([]byte{0x80 + byte(rnd.Intn(128))}, rnd.Intn(11))...)
		case 4:
			b = append(b, []byte{0, 1, 2, 127, 128, 255}[rnd.Intn(6)])
		}
	}
	return b
}

func TestRowsOfCalls(t *testing.T) {
	rnd := rand.New(rand.NewSource(1))
	mosts := []uint64{0, 1, 7, 8, 255, 1 << 32, 1<<63 - 1, 1 << 63, math.MaxUint64}
	lengths := []int{0, 1, 3, 4, -1, 100, math.MaxInt, math.MinInt}
	errs := []api.Errno{api.OK, api.ErrArg, api.ErrLong, -3, 1000}
	for at := range 200_000 {
		b := bytesOf(rnd)
		r, m := pack.New(b), &model{left: b}
		for range rnd.Intn(9) {
			switch rnd.Intn(12) {
			case 0, 1, 2, 3:
				most := mosts[rnd.Intn(len(mosts))]
				if x, want := r.Num(most), m.num(most); x != want {
					t.Fatalf("P1.1: row %d: Num(%d) of %x: %d, not %d", at, most, b, x, want)
				}
			case 4, 5:
				if x, want := r.Int(), m.int(); x != want {
					t.Fatalf("P1.1: row %d: Int of %x: %d, not %d", at, b, x, want)
				}
			case 6, 7, 8:
				most := lengths[rnd.Intn(len(lengths))]
				if x, want := r.Row(most), m.row(most); !bytes.Equal(x, want) {
					t.Fatalf("P1.1: row %d: Row(%d) of %x: %x, not %x", at, most, b, x, want)
				}
			case 9:
				e := errs[rnd.Intn(len(errs))]
				r.Fail(e)
				m.fail(e)
			}
			if x, want := r.End(), m.end(); x != want {
				t.Fatalf("P1.1: row %d: End of %x: %v, not %v", at, b, x, want)
			}
		}
	}
}

func TestEveryCallEnds(t *testing.T) {
	defer func() {
		if p := recover(); p != nil {
			t.Errorf("P0.1: a call panics: %v", p)
		}
	}()
	var odd [][]byte
	for _, last := range []string{"", "\x00", "\x01", "\x02", "\x7f", "\x80", "\xff"} {
		for n := range 13 {
			odd = append(odd, append(bytes.Repeat([]byte{0xff}, n), last...))
		}
	}
	for _, b := range append(odd, nil) {
		for _, r := range []*pack.Reader{nil, pack.New(b)} {
			r.Row(math.MinInt)
			r.Fail(math.MinInt)
			r.End()
		}
		for _, n := range []int{math.MinInt, -1, 0, 1, math.MaxInt} {
			for _, call := range []func(r *pack.Reader){
				func(r *pack.Reader) { r.Num(uint64(n)) },
				func(r *pack.Reader) { r.Int() },
				func(r *pack.Reader) { r.Row(n) },
				func(r *pack.Reader) { r.Fail(api.Errno(n)) },
			} {
				call(nil)
				r := pack.New(b)
				call(r)
				call(r)
				r.End()
			}
			pack.PutNum(b, uint64(n))
			pack.PutInt(b, int64(n))
			pack.PutRow(b, b)
		}
	}
}

func TestWhatIsPutIsTaken(t *testing.T) {
	for _, n := range edges() {
		r := pack.New(pack.PutNum(nil, n))
		if x := r.Num(n); x != n || r.End() != api.OK {
			t.Errorf("P1.2: Num of what PutNum of %d put: %d, %v", n, x, r.End())
		}
		r = pack.New(pack.PutInt(nil, int64(n)))
		if x := r.Int(); x != int64(n) || r.End() != api.OK {
			t.Errorf("P1.2: Int of what PutInt of %d put: %d, %v", int64(n), x, r.End())
		}
	}
	for _, n := range []int{0, 1, 127, 128, 129, 16383, 16384, 100_000} {
		row := bytes.Repeat([]byte{0x80}, n)
		r := pack.New(pack.PutRow(nil, row))
		if x := r.Row(n); !bytes.Equal(x, row) || r.End() != api.OK {
			t.Errorf("P1.2: Row of what PutRow of %d bytes put: %d bytes, %v", n, len(x), r.End())
		}
	}
}

func TestOneBehindTheOtherIsTaken(t *testing.T) {
	rnd := rand.New(rand.NewSource(2))
	for range 2000 {
		var b []byte
		var checks []func(r *pack.Reader) bool
		for range rnd.Intn(8) {
			n := rnd.Uint64() >> rnd.Intn(65)
			switch rnd.Intn(3) {
			case 0:
				b = pack.PutNum(b, n)
				checks = append(checks, func(r *pack.Reader) bool { return r.Num(n) == n })
			case 1:
				b = pack.PutInt(b, int64(n))
				checks = append(checks, func(r *pack.Reader) bool { return r.Int() == int64(n) })
			case 2:
				row := bytes.Repeat([]byte{byte(n)}, int(n%200))
				b = pack.PutRow(b, row)
				checks = append(checks, func(r *pack.Reader) bool { return bytes.Equal(r.Row(len(row)), row) })
			}
		}
		r := pack.New(b)
		for i, check := range checks {
			if !check(r) {
				t.Fatalf("P1.2: the part %d of %x isn't what was put", i, b)
			}
		}
		if e := r.End(); e != api.OK {
			t.Fatalf("P1.2: End of %x: %v", b, e)
		}
	}
}

// putsAsItStood holds what is taken of bytes, put anew, against them.
func putsAsItStood(t *testing.T, b []byte) {
	r := pack.New(b)
	if n := r.Num(math.MaxUint64); r.End() == api.OK && !bytes.Equal(pack.PutNum(nil, n), b) {
		t.Errorf("P1.2: the number %d is taken of %x, but put as %x", n, b, pack.PutNum(nil, n))
	}
	r = pack.New(b)
	if n := r.Int(); r.End() == api.OK && !bytes.Equal(pack.PutInt(nil, n), b) {
		t.Errorf("P1.2: the whole number %d is taken of %x, but put as %x", n, b, pack.PutInt(nil, n))
	}
	r = pack.New(b)
	if row := r.Row(math.MaxInt); r.End() == api.OK && !bytes.Equal(pack.PutRow(nil, row), b) {
		t.Errorf("P1.2: the row %x is taken of %x, but put as %x", row, b, pack.PutRow(nil, row))
	}
}

func TestWhatIsTakenIsPutAsItStood(t *testing.T) {
	for a := range 256 {
		putsAsItStood(t, []byte{byte(a)})
		for b := range 256 {
			putsAsItStood(t, []byte{byte(a), byte(b)})
			for _, c := range []byte{0, 1, 2, 127, 128, 129, 255} {
				putsAsItStood(t, []byte{byte(a), byte(b), c})
			}
		}
	}
	for _, last := range []string{"\x00", "\x01", "\x02", "\x7f", "\x80", "\x80\x00", "\x81\x01"} {
		for n := range 12 {
			for _, c := range []byte{0x80, 0x81, 0xff} {
				putsAsItStood(t, append(bytes.Repeat([]byte{c}, n), last...))
			}
		}
	}
}
