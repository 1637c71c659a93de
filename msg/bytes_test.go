package msg_test

import (
	"bytes"
	"encoding/binary"
	"hash/crc32"
	"math"
	"math/rand"
	"strings"
	"testing"

	"scrutineer/api"
	"scrutineer/msg"
	"scrutineer/pack"
	"scrutineer/reg"
)

// mark are bytes with their sum behind them.
func mark(b []byte) []byte {
	return binary.LittleEndian.AppendUint32(bytes.Clone(b), crc32.ChecksumIEEE(b))
}

// numbers are those numbers' bytes.
func numbers(b []byte, l ...uint64) []byte {
	for _, n := range l {
		b = binary.AppendUvarint(b, n)
	}
	return b
}

// regBytes are a register's bytes.
func regBytes(b []byte, r api.Reg) []byte {
	b = numbers(b, uint64(r.Kind))
	if r.Kind == api.Absent {
		return b
	}
	state := func(n int, vars []int64) {
		b = numbers(b, uint64(n), uint64(len(vars)))
		for _, v := range vars {
			b = binary.AppendVarint(b, v)
		}
	}
	b = numbers(b, r.Inc)
	state(r.State, r.Vars)
	b = numbers(b, uint64(len(r.Done)))
	for _, d := range r.Done {
		b = numbers(b, uint64(d.Client), d.Seq, uint64(d.Reply.Err), d.Reply.Inc)
		state(d.Reply.State, d.Reply.Vars)
	}
	b = numbers(b, uint64(len(r.Out)))
	for _, c := range r.Out {
		b = numbers(b, c.N, uint64(c.Target), uint64(c.Action))
		b = binary.AppendVarint(b, c.Arg)
	}
	b = numbers(b, r.Last, uint64(len(r.Marks)))
	for _, m := range r.Marks {
		b = numbers(b, uint64(m.Source), m.Inc, m.Cell)
	}
	return b
}

// body are a message's bytes without the mark, whether it may be or not.
func body(m api.Msg) []byte {
	b := numbers(nil, uint64(m.Kind), uint64(m.From), uint64(m.To), uint64(m.Key), m.Conf)
	b = numbers(b, m.B.Count, uint64(m.B.Node), uint64(m.B.Life))
	is := uint64(0)
	if m.OK {
		is = 1
	}
	b = numbers(b, is, m.Acc.Count, uint64(m.Acc.Node), uint64(m.Acc.Life))
	b = regBytes(b, m.Reg)
	return numbers(b, m.Next.Count, uint64(m.Next.Node), uint64(m.Next.Life), m.Max)
}

func TestPutTable(t *testing.T) {
	for _, x := range []struct {
		m    api.Msg
		want string
	}{
		{api.Msg{Kind: api.MsgPrepare, From: 1, To: 2, B: under(1, 1, 0)},
			"\x01\x01\x02\x00\x00" + "\x01\x01\x00" + "\x00" + "\x00\x00\x00" + "\x00" + "\x00\x00\x00" + "\x00"},
		{api.Msg{Kind: api.MsgPrepare, From: 63, To: 62, Key: 15, Conf: 300, B: under(128, 255, 129)},
			"\x01\x3f\x3e\x0f\xac\x02" + "\x80\x01\xff\x01\x81\x01" + "\x00" + "\x00\x00\x00" + "\x00" + "\x00\x00\x00" + "\x00"},
		{api.Msg{Kind: api.MsgPromise, From: 3, To: 4, Key: 5, Conf: 6, B: under(7, 8, 9), OK: true, Acc: under(10, 11, 12), Reg: api.Reg{Kind: api.Tomb, Inc: 13, Last: 14}},
			"\x02\x03\x04\x05\x06" + "\x07\x08\x09" + "\x01" + "\x0a\x0b\x0c" + "\x02\x0d\x00\x00\x00\x00\x0e\x00" + "\x00\x00\x00" + "\x00"},
		{api.Msg{Kind: api.MsgPromise, B: under(7, 8, 9), Max: 300},
			"\x02\x00\x00\x00\x00" + "\x07\x08\x09" + "\x00" + "\x00\x00\x00" + "\x00" + "\x00\x00\x00" + "\xac\x02"},
		{api.Msg{Kind: api.MsgAccept, B: under(7, 8, 9), Reg: api.Reg{Kind: api.Live, Inc: 1, Vars: []int64{-1}}, Next: under(16, 8, 9)},
			"\x03\x00\x00\x00\x00" + "\x07\x08\x09" + "\x00" + "\x00\x00\x00" + "\x01\x01\x00\x01\x01\x00\x00\x00\x00" + "\x10\x08\x09" + "\x00"},
		{api.Msg{Kind: api.MsgAccepted, B: under(7, 8, 9), OK: true},
			"\x04\x00\x00\x00\x00" + "\x07\x08\x09" + "\x01" + "\x00\x00\x00" + "\x00" + "\x00\x00\x00" + "\x00"},
		{api.Msg{Kind: api.MsgAccepted, Conf: math.MaxUint64, B: under(7, 8, 9), Max: 2},
			"\x04\x00\x00\x00\xff\xff\xff\xff\xff\xff\xff\xff\xff\x01" + "\x07\x08\x09" + "\x00" + "\x00\x00\x00" + "\x00" + "\x00\x00\x00" + "\x02"},
	} {
		want := mark([]byte(x.want))
		if got, e := msg.Put(x.m); e != api.OK || !bytes.Equal(got, want) {
			t.Errorf("P11.1: Put of %v: %x, %v, not %x", x.m, got, e, want)
		}
		if got, e := msg.Get(want); e != api.OK || !alike(got, x.m) {
			t.Errorf("P11.1: Get of %x: %v, %v, not %v", want, got, e, x.m)
		}
	}
	if b, _ := msg.Put(some()[0]); len(b) != 21 {
		t.Errorf("P11.1: a prepare of the key 0 under the ballot 1, 1, 0 has %d bytes", len(b))
	}
}

// wanted is what Get answers of bytes that are marked, where they are put together of so many parts.
type wanted struct {
	b   string
	err api.Errno
}

// over and big are bytes that can't stand, and the highest number.
const (
	over = "\xff\xff\xff\xff\xff\xff\xff\xff\xff\x02"
	big  = "\xff\xff\xff\xff\xff\xff\xff\xff\xff\x01"
)

// withPart is a promise of whose parts one is put otherwise, and the rest is left away if it is told.
func withPart(at int, part string, cut bool) string {
	parts := []string{
		"\x02", "\x01", "\x02", "\x03", "\x04", // Kind, From, To, Key, Conf
		"\x05\x01\x07",                     // B
		"\x01",                             // OK
		"\x03\x01\x07",                     // Acc
		"\x01\x01\x00\x00\x00\x00\x00\x00", // Reg
		"\x00\x00\x00",                     // Next
		"\x00",                             // Max
	}
	parts[at] = part
	if cut {
		parts = parts[:at+1]
	}
	return strings.Join(parts, "")
}

// errorsOfParts are a promise's parts put otherwise, and what comes of each.
func errorsOfParts() []struct {
	at   int
	part string
	err  api.Errno
} {
	return []struct {
		at   int
		part string
		err  api.Errno
	}{
		{0, "", api.ErrShort}, {0, "\x80\x02", api.ErrRange}, {0, "\x82\x80\x02", api.ErrRange}, {0, big, api.ErrRange}, {0, over, api.ErrForm}, {0, "\x82\x00", api.ErrForm},
		{1, "", api.ErrShort}, {1, "\x80\x02", api.ErrRange}, {1, big, api.ErrRange}, {1, "\x80\x00", api.ErrForm},
		{2, "", api.ErrShort}, {2, "\x80\x02", api.ErrRange}, {2, big, api.ErrRange}, {2, "\x80\x00", api.ErrForm},
		{3, "", api.ErrShort}, {3, "\x80\x02", api.ErrRange}, {3, big, api.ErrRange}, {3, "\x80\x00", api.ErrForm},
		{4, "", api.ErrShort}, {4, over, api.ErrForm}, {4, "\x84\x00", api.ErrForm},
		{5, "", api.ErrShort}, {5, "\x05\x01", api.ErrShort}, {5, "\x05\x80\x02\x07", api.ErrRange}, {5, "\x05\x01\x80\x80\x80\x80\x10", api.ErrRange}, {5, over + "\x01\x01", api.ErrForm},
		{6, "", api.ErrShort}, {6, "\x02", api.ErrRange}, {6, "\x80\x02", api.ErrRange}, {6, big, api.ErrRange}, {6, "\x81\x00", api.ErrForm},
		{7, "", api.ErrShort}, {7, "\x03", api.ErrShort}, {7, "\x03\x80\x02\x07", api.ErrRange}, {7, "\x03\x01" + big, api.ErrRange}, {7, "\x03\x01\x87\x00", api.ErrForm},
		{8, "", api.ErrShort}, {8, "\x01\x01\x00", api.ErrShort}, {8, "\x80\x02", api.ErrRange}, {8, "\x01\x01\xe9\x07\x00\x00\x00\x00\x00", api.ErrRange}, {8, "\x03\x01\x00\x00\x00\x00\x00\x00", api.ErrForm}, {8, "\x01\x00\x00\x00\x00\x00\x00\x00", api.ErrForm}, {8, "\x81\x00", api.ErrForm},
		{9, "", api.ErrShort}, {9, "\x00\x00", api.ErrShort}, {9, "\x00\x80\x02\x00", api.ErrRange}, {9, "\x00\x00\x80\x80\x80\x80\x10", api.ErrRange}, {9, over + "\x00\x00", api.ErrForm},
		{10, "", api.ErrShort}, {10, "\x80", api.ErrShort}, {10, over, api.ErrForm}, {10, "\x80\x00", api.ErrForm},
	}
}

func TestGetMeetsTheFirstError(t *testing.T) {
	if _, e := msg.Get(mark([]byte(withPart(10, "\x00", false)))); e != api.OK {
		t.Fatal("P11.1: a promise isn't got:", e)
	}
	for i, x := range errorsOfParts() {
		l := []wanted{{withPart(x.at, x.part, true), x.err}}
		if x.err != api.ErrShort {
			// What stands behind an error, or is left there, isn't met.
			l = append(l, wanted{withPart(x.at, x.part, false), x.err},
				wanted{withPart(x.at, x.part, true) + over + big + "\x80\x02", x.err},
				wanted{withPart(x.at, x.part, false) + "\x00", x.err})
		}
		for _, w := range l {
			if m, e := msg.Get(mark([]byte(w.b))); e != w.err || !alike(m, api.Msg{}) {
				t.Errorf("P11.1: Get of %d, %x: %v, %v, not %v", i, w.b, m, e, w.err)
			}
			// The mark's error comes ahead of all.
			if m, e := msg.Get([]byte(w.b + "abcd")); e != api.ErrSum || !alike(m, api.Msg{}) {
				t.Errorf("P11.1: Get of %d, %x without a mark: %v, %v", i, w.b, m, e)
			}
		}
	}
}

func TestGetTellsWhatIsLeftAheadOfWhatMayNotBe(t *testing.T) {
	for _, m := range some() {
		for _, left := range []string{"\x00", "\x80\x00", "\x07", over} {
			if got, e := msg.Get(mark(append(body(m), left...))); e != api.ErrLong || !alike(got, api.Msg{}) {
				t.Fatalf("P11.1: Get of %v with %x behind it: %v, %v", m, left, got, e)
			}
		}
	}
	for _, m := range faults() {
		if !reg.May(m.Reg) {
			continue
		}
		if got, e := msg.Get(mark(body(m))); e != api.ErrForm || !alike(got, api.Msg{}) {
			t.Fatalf("P11.1: Get of %v: %v, %v", m, got, e)
		}
		if got, e := msg.Get(mark(append(body(m), 0))); e != api.ErrLong || !alike(got, api.Msg{}) {
			t.Fatalf("P11.1: Get of %v with a byte behind it: %v, %v", m, got, e)
		}
	}
}

func TestGetOfBytesWithoutAMark(t *testing.T) {
	for _, x := range []struct {
		b   string
		err api.Errno
	}{
		{"", api.ErrShort},
		{"\x00", api.ErrShort},
		{"\x00\x00\x00", api.ErrShort},
		{"\x00\x00\x00\x00", api.ErrShort}, // marked bytes, of which there are none
		{"\x00\x00\x00\x01", api.ErrSum},
		{"\x01\x00\x00\x00\x00", api.ErrSum},
		{string(body(some()[0])), api.ErrSum},
		{string(body(some()[0])) + "\x00\x00\x00\x00", api.ErrSum},
	} {
		if m, e := msg.Get([]byte(x.b)); e != x.err || !alike(m, api.Msg{}) {
			t.Errorf("P11.1: Get of %x: %v, %v, not %v", x.b, m, e, x.err)
		}
	}
	for _, m := range some() {
		b, _ := msg.Put(m)
		for at := range b {
			want := api.ErrSum
			if at < 4 {
				want = api.ErrShort
			}
			if got, e := msg.Get(b[:at]); e != want || !alike(got, api.Msg{}) {
				t.Fatalf("P11.1: Get of the first %d bytes of %x: %v, %v", at, b, got, e)
			}
		}
	}
}

// number is what a number's bytes at the front come to, and what stands behind them.
func number(b []byte, most uint64) (uint64, []byte, api.Errno) {
	var n uint64
	for i, c := range b {
		if i > 0 && c == 0 || i == 9 && c > 1 {
			return 0, nil, api.ErrForm
		}
		n |= uint64(c&127) << (7 * i)
		if c < 128 && n > most {
			return 0, nil, api.ErrRange
		}
		if c < 128 {
			return n, b[i+1:], api.OK
		}
	}
	return 0, nil, api.ErrShort
}

// getModel is what Get answers of bytes that are marked; the register is layer 6's.
func getModel(b []byte) (api.Msg, api.Errno) {
	var n [17]uint64
	var r api.Reg
	var e api.Errno
	most := [17]uint64{255, 255, 255, 255, math.MaxUint64,
		math.MaxUint64, 255, math.MaxUint32, 1,
		math.MaxUint64, 255, math.MaxUint32, 0,
		math.MaxUint64, 255, math.MaxUint32, math.MaxUint64}
	for i := range n {
		if i == 12 {
			p := pack.New(b)
			r = reg.Get(p)
			if e = p.End(); e != api.OK && e != api.ErrLong {
				return api.Msg{}, e
			}
			b = b[len(regBytes(nil, r)):]
			continue
		}
		if n[i], b, e = number(b, most[i]); e != api.OK {
			return api.Msg{}, e
		}
	}
	at := func(i int) api.Ballot { return under(n[i], uint8(n[i+1]), uint32(n[i+2])) }
	m := api.Msg{Kind: uint8(n[0]), From: uint8(n[1]), To: uint8(n[2]), Key: uint8(n[3]), Conf: n[4],
		B: at(5), OK: n[8] == 1, Acc: at(9), Reg: r, Next: at(13), Max: n[16]}
	if len(b) > 0 {
		return api.Msg{}, api.ErrLong
	}
	if !mayModel(m, true) {
		return api.Msg{}, api.ErrForm
	}
	return m, api.OK
}

// holdGet holds Get of bytes, marked, against its model.
func holdGet(t *testing.T, b []byte) api.Errno {
	t.Helper()
	marked := mark(b)
	got, e := msg.Get(marked)
	if want, f := getModel(b); e != f || !alike(got, want) {
		t.Fatalf("P11.1: Get of %x, marked: %v, %v, not %v, %v", b, got, e, want, f)
	}
	if e != api.OK {
		return e
	}
	if back, f := msg.Put(got); f != api.OK || !bytes.Equal(back, marked) {
		t.Fatalf("P11.2: %v is got of %x, but put as %x, %v", got, marked, back, f)
	}
	return e
}

func TestGetOfChangedBytes(t *testing.T) {
	errs := map[api.Errno]int{}
	for _, m := range some() {
		b := body(m)
		if len(b) > 150 {
			continue
		}
		for at := range b {
			holdGet(t, b[:at])
			for x := range 256 {
				changed := bytes.Clone(b)
				changed[at] = byte(x)
				errs[holdGet(t, changed)]++
			}
			holdGet(t, append(bytes.Clone(b[:at]), b[at+1:]...))
		}
	}
	for _, e := range []api.Errno{api.OK, api.ErrShort, api.ErrForm, api.ErrRange, api.ErrLong} {
		if errs[e] < 100 {
			t.Errorf("P11.1: what is tried doesn't come to enough: %v", errs)
		}
	}
}

func TestGetOfRandomBytes(t *testing.T) {
	rnd := rand.New(rand.NewSource(1))
	errs := map[api.Errno]int{}
	for range 200_000 {
		b := make([]byte, 14+rnd.Intn(8), 22)
		for i := range b {
			b[i] = byte(rnd.Intn(5) * rnd.Intn(2))
		}
		if rnd.Intn(2) == 0 {
			// A message without a register, mostly.
			b = b[:17]
			clear(b[8:])
		}
		if rnd.Intn(4) == 0 {
			b[rnd.Intn(len(b))] = byte(rnd.Intn(256))
		}
		errs[holdGet(t, b)]++
	}
	if errs[api.OK] < 300 {
		t.Error("P11.1: what is tried doesn't come to enough:", errs)
	}
}

func TestWhatIsPutIsGot(t *testing.T) {
	rnd := rand.New(rand.NewSource(2))
	l := some()
	for range 20_000 {
		l = append(l, random(rnd))
	}
	for _, m := range l {
		b, e := msg.Put(m)
		if want := mark(body(m)); e != api.OK || !bytes.Equal(b, want) {
			t.Fatalf("P11.1: Put of %v: %x, %v, not %x", m, b, e, want)
		}
		if got, e := msg.Get(b); e != api.OK || !alike(got, m) || !msg.Same(got, m) {
			t.Fatalf("P11.2: %v is put, but got as %v, %v", m, got, e)
		}
	}
}

func TestSpoiltBytesAreNone(t *testing.T) {
	rnd := rand.New(rand.NewSource(3))
	for _, m := range some() {
		b, _ := msg.Put(m)
		none := func(at, many int) {
			if got, e := msg.Get(b); e != api.ErrSum || !alike(got, api.Msg{}) {
				t.Fatalf("P11.3: Get of the bytes of %v, of which %d from %d on are others: %v, %v", m, many, at, got, e)
			}
		}
		for at := range b {
			keep := b[at]
			for x := 1; x < 256; x++ {
				// Of many bytes just each bit is turned.
				if len(b) < 200 || x&(x-1) == 0 {
					b[at] = keep ^ byte(x)
					none(at, 1)
				}
			}
			b[at] = keep
		}
		for range 2000 {
			at := rnd.Intn(len(b) - 3)
			keep := bytes.Clone(b)
			rnd.Read(b[at : at+4])
			if !bytes.Equal(b, keep) {
				none(at, 4)
			}
			// The first one and the last one alone.
			copy(b, keep)
			b[at] ^= byte(1 << rnd.Intn(8))
			b[at+3] ^= byte(1 << rnd.Intn(8))
			none(at, 4)
			copy(b, keep)
		}
		if got, e := msg.Get(b); e != api.OK || !alike(got, m) {
			t.Fatalf("P11.2: %v is put, but got as %v, %v", m, got, e)
		}
	}
}
