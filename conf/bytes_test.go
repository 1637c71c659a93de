package conf_test

import (
	"bytes"
	"encoding/binary"
	"math"
	"math/rand"
	"strings"
	"testing"

	"scrutineer/api"
	"scrutineer/conf"
	"scrutineer/pack"
)

// bytesOf are a configuration's bytes, behind others.
func bytesOf(b []byte, c api.Conf) []byte {
	b = binary.AppendUvarint(bytes.Clone(b), c.C)
	for _, l := range [][]uint8{c.Old, c.New} {
		b = binary.AppendUvarint(b, uint64(len(l)))
		for _, n := range l {
			b = binary.AppendUvarint(b, uint64(n))
		}
	}
	return b
}

// get takes a configuration of bytes, and the reader's error.
func get(b []byte) (api.Conf, api.Errno) {
	r := pack.New(b)
	c := conf.Get(r)
	return c, r.End()
}

func TestPutTable(t *testing.T) {
	for _, x := range []struct {
		ahead string
		c     api.Conf
		want  string
	}{
		{"", api.Conf{}, "\x00\x00\x00"},
		{"", stable(0, 3), "\x00\x00\x01\x03"},
		{"ab", stable(0, 3), "ab\x00\x00\x01\x03"},
		{"", stable(300, 0, 63), "\xac\x02\x00\x02\x00\x3f"},
		{"", between(1, of(3), of(3, 9)), "\x01\x01\x03\x02\x03\x09"},
		{"\x00", between(129, of(3, 9), of(9)), "\x00\x81\x01\x02\x03\x09\x01\x09"},
		{"", stable(math.MaxUint64-1, 1), "\xfe\xff\xff\xff\xff\xff\xff\xff\xff\x01\x00\x01\x01"},
		{"", between(math.MaxUint64, of(1), of(1, 2)), "\xff\xff\xff\xff\xff\xff\xff\xff\xff\x01\x01\x01\x02\x01\x02"},
		// What may not be is put likewise: there is no error.
		{"", api.Conf{C: 1, Old: of(255, 128), New: of(127)}, "\x01\x02\xff\x01\x80\x01\x01\x7f"},
		{"", between(0, of(7), nil), "\x00\x01\x07\x00"},
		{"", stable(2, make([]uint8, 130)...), "\x02\x00\x82\x01" + strings.Repeat("\x00", 130)},
	} {
		if got := conf.Put([]byte(x.ahead), x.c); string(got) != x.want {
			t.Errorf("P10.1: Put of %v behind %x: %x, not %x", x.c, x.ahead, got, x.want)
		}
	}
}

func TestPutIsAsTheChapterSays(t *testing.T) {
	for i, c := range append(someMoves(), noConfs()...) {
		ahead := bytes.Repeat([]byte{byte(i)}, i%7)
		if got, want := conf.Put(ahead, c), bytesOf(ahead, c); !bytes.Equal(got, want) {
			t.Fatalf("P10.1: Put of %v behind %x: %x, not %x", c, ahead, got, want)
		}
	}
}

func TestGetTable(t *testing.T) {
	const big = "\xff\xff\xff\xff\xff\xff\xff\xff\xff\x01"
	const over = "\xff\xff\xff\xff\xff\xff\xff\xff\xff\x02"
	many := string(bytesOf(nil, stable(2, row(0, 64)...)))
	tooMany := string(bytesOf(nil, stable(2, row(0, 65)...)))
	for _, x := range []struct {
		b    string
		want api.Conf
		err  api.Errno
	}{
		{"\x00\x00\x01\x03", stable(0, 3), api.OK},
		{"\x00\x00\x01\x03\x00", stable(0, 3), api.ErrLong},
		{"\x00\x00\x01\x03\x80\x00", stable(0, 3), api.ErrLong},
		{"\x01\x01\x03\x02\x03\x09", between(1, of(3), of(3, 9)), api.OK},
		{"\xac\x02\x00\x02\x00\x3f", stable(300, 0, 63), api.OK},
		{big + "\x02\x03\x09\x01\x09", between(math.MaxUint64, of(3, 9), of(9)), api.OK},
		{many, stable(2, row(0, 64)...), api.OK},
		// Short.
		{"", api.Conf{}, api.ErrShort},
		{"\x80", api.Conf{}, api.ErrShort},
		{"\x00", api.Conf{}, api.ErrShort},
		{"\x00\x00", api.Conf{}, api.ErrShort},
		{"\x00\x80", api.Conf{}, api.ErrShort},
		{"\x00\x00\x01", api.Conf{}, api.ErrShort},
		{"\x00\x00\x02\x03", api.Conf{}, api.ErrShort},
		{"\x01\x01", api.Conf{}, api.ErrShort},
		{"\x01\x01\x03", api.Conf{}, api.ErrShort},
		{"\x01\x01\x03\x02\x03", api.Conf{}, api.ErrShort},
		{"\x00\x40", api.Conf{}, api.ErrShort},
		{many[:len(many)-1], api.Conf{}, api.ErrShort},
		// Bytes that can't stand.
		{"\x80\x00\x00\x01\x03", api.Conf{}, api.ErrForm},
		{over + "\x00\x01\x03", api.Conf{}, api.ErrForm},
		{"\x00\x80\x00\x01\x03", api.Conf{}, api.ErrForm},
		{"\x00" + over + "\x01\x03", api.Conf{}, api.ErrForm},
		{"\x00\x00\x81\x00\x03", api.Conf{}, api.ErrForm},
		{"\x00\x00\x01\x83\x00", api.Conf{}, api.ErrForm},
		{"\x00\x00\x01" + over, api.Conf{}, api.ErrForm},
		// How many, and nodes, out of their limits.
		{"\x00\x41", api.Conf{}, api.ErrRange},
		{"\x00\x41" + strings.Repeat("\x00", 100), api.Conf{}, api.ErrRange},
		{"\x00\x00\x41", api.Conf{}, api.ErrRange},
		{"\x00\x00\x80\x01", api.Conf{}, api.ErrRange},
		{"\x00\x00" + big, api.Conf{}, api.ErrRange},
		{"\x00" + big, api.Conf{}, api.ErrRange},
		{tooMany, api.Conf{}, api.ErrRange},
		{"\x00\x00\x01\x80\x02", api.Conf{}, api.ErrRange},
		{"\x00\x00\x01" + big, api.Conf{}, api.ErrRange},
		{"\x01\x01\x80\x02\x02\x03\x09", api.Conf{}, api.ErrRange},
		{"\x01\x01\x03\x02\x03\x80\x02", api.Conf{}, api.ErrRange},
		// The first that is met.
		{"\x00\x00\x02\x80\x02\x80\x00", api.Conf{}, api.ErrRange},
		{"\x00\x00\x02\x80\x02", api.Conf{}, api.ErrRange},
		{"\x00\x00\x02\x80\x00\x80\x02", api.Conf{}, api.ErrForm},
		{"\x00\x00\x02\x80\x00", api.Conf{}, api.ErrForm},
		// Whole numbers that may not be.
		{"\x00\x00\x00", api.Conf{}, api.ErrForm},
		{"\x00\x00\x01\x40", api.Conf{}, api.ErrForm},
		{"\x00\x00\x01\xff\x01", api.Conf{}, api.ErrForm},
		{"\x00\x00\x02\x03\x03", api.Conf{}, api.ErrForm},
		{"\x00\x00\x02\x03\x02", api.Conf{}, api.ErrForm},
		{"\x00\x01\x03\x01\x03", api.Conf{}, api.ErrForm},
		{"\x01\x00\x01\x03", api.Conf{}, api.ErrForm},
		{"\x01\x01\x03\x00", api.Conf{}, api.ErrForm},
		{"\x01\x01\x03\x01\x03", api.Conf{}, api.ErrForm},
		{"\x01\x01\x03\x02\x04\x05", api.Conf{}, api.ErrForm},
		{"\x01\x01\xff\x01\x02\x03\xff\x01", api.Conf{}, api.ErrForm},
		{"\x00\x00\x00\x00\x00\x01\x03", api.Conf{}, api.ErrForm},
		// Short, or out of the limits, though what was taken may not be already.
		{"\x00\x00\x02\x40", api.Conf{}, api.ErrShort},
		{"\x00\x00\x02\x40\x80\x02", api.Conf{}, api.ErrRange},
		{"\x00\x01\x03", api.Conf{}, api.ErrShort},
		{"\x01\x00\x41", api.Conf{}, api.ErrRange},
	} {
		if got, e := get([]byte(x.b)); e != x.err || !same(got, x.want) {
			t.Errorf("P10.1: Get of %x: %v, %v, not %v, %v", x.b, got, e, x.want, x.err)
		}
	}
}

// number is what a number's bytes at the front come to, and what stands behind them.
func number(b []byte, most uint64) (uint64, []byte, api.Errno) {
	var n uint64
	for i, c := range b {
		if i > 0 && c == 0 || i == 9 && c > 1 {
			return 0, nil, api.ErrForm
		}
		n |= uint64(c&127) << (7 * i)
		if c < 128 && n > most {
			return 0, nil, api.ErrRange
		}
		if c < 128 {
			return n, b[i+1:], api.OK
		}
	}
	return 0, nil, api.ErrShort
}

// list are the nodes whose bytes stand at the front, and what stands behind them.
func list(b []byte) ([]uint8, []byte, api.Errno) {
	many, b, e := number(b, 64)
	var l []uint8
	for range many {
		var n uint64
		if n, b, e = number(b, 255); e != api.OK {
			return nil, nil, e
		}
		l = append(l, uint8(n))
	}
	return l, b, e
}

// getModel is what Get and the reader's End answer of bytes.
func getModel(b []byte) (api.Conf, api.Errno) {
	n, b, e := number(b, math.MaxUint64)
	if e != api.OK {
		return api.Conf{}, e
	}
	older, b, e := list(b)
	if e != api.OK {
		return api.Conf{}, e
	}
	newer, b, e := list(b)
	if e != api.OK {
		return api.Conf{}, e
	}
	c := api.Conf{C: n, Old: older, New: newer}
	if !modelMay(c) {
		return api.Conf{}, api.ErrForm
	}
	if len(b) > 0 {
		return c, api.ErrLong
	}
	return c, api.OK
}

// holdGet holds Get of bytes against its model.
func holdGet(t *testing.T, b []byte) api.Errno {
	t.Helper()
	got, e := get(b)
	if want, f := getModel(b); e != f || !same(got, want) {
		t.Fatalf("P10.1: Get of %x: %v, %v, not %v, %v", b, got, e, want, f)
	}
	return e
}

func TestGetOfChangedBytes(t *testing.T) {
	errs := map[api.Errno]int{}
	for _, c := range []api.Conf{stable(0, 3), stable(300, 0, 7, 63), between(1, of(3), of(3, 9)), between(129, of(3, 9, 63), of(3, 63)), between(5, row(0, 64), row(0, 63))} {
		b := bytesOf(nil, c)
		for at := range b {
			holdGet(t, b[:at])
			for x := range 256 {
				changed := bytes.Clone(b)
				changed[at] = byte(x)
				errs[holdGet(t, changed)]++
			}
		}
	}
	for _, e := range []api.Errno{api.OK, api.ErrShort, api.ErrForm, api.ErrRange, api.ErrLong} {
		if errs[e] < 10 {
			t.Errorf("P10.1: what is tried doesn't come to enough: %v", errs)
		}
	}
}

func TestGetOfRandomBytes(t *testing.T) {
	rnd := rand.New(rand.NewSource(7))
	for at := range 100_000 {
		b := make([]byte, rnd.Intn(16))
		rnd.Read(b)
		for i := range b {
			b[i] >>= rnd.Intn(9)
		}
		if at%2 == 0 && len(b) > 2 {
			b[0], b[1] = byte(rnd.Intn(2)), byte(rnd.Intn(3))
			b[2+int(b[1])%(len(b)-2)] = byte(rnd.Intn(4))
		}
		holdGet(t, b)
	}
}

func TestWhatIsPutIsGot(t *testing.T) {
	rnd := rand.New(rand.NewSource(8))
	l := someMoves()
	for range 3000 {
		l = append(l, someConf(rnd, 2+rnd.Intn(63)))
	}
	var all []byte
	for _, c := range l {
		if got, e := get(conf.Put(nil, c)); e != api.OK || !same(got, c) {
			t.Fatalf("P10.3: %v is put, but got as %v, %v", c, got, e)
		}
		if len(all) < 10_000 {
			all = conf.Put(all, c)
		}
	}
	// And one behind the other, with numbers between.
	r := pack.New(pack.PutNum(all, 77))
	for at := 0; len(all) > 0; at++ {
		if got := conf.Get(r); !same(got, l[at]) {
			t.Fatalf("P10.3: the one %d of a row is put as %v, but got as %v", at, l[at], got)
		}
		all = all[len(bytesOf(nil, l[at])):]
	}
	if n := r.Num(99); n != 77 || r.End() != api.OK {
		t.Errorf("P10.3: behind a row of configurations: %d, %v", n, r.End())
	}
}

func TestWhatIsGotIsPutAsItStood(t *testing.T) {
	rnd := rand.New(rand.NewSource(9))
	ok := 0
	for range 100_000 {
		b := []byte{byte(rnd.Intn(4)), byte(rnd.Intn(3))}
		for range rnd.Intn(6) {
			b = append(b, byte(rnd.Intn(4)))
		}
		if c, e := get(b); e == api.OK {
			ok++
			if got := conf.Put(nil, c); !bytes.Equal(got, b) {
				t.Fatalf("P10.3: %v is got of %x, but put as %x", c, b, got)
			}
		}
	}
	if ok < 500 {
		t.Error("P10.3: what is tried doesn't come to enough:", ok)
	}
}

func TestGetOfReadersWithErrors(t *testing.T) {
	b := bytesOf(nil, stable(0, 3))
	for e := api.Errno(1); e < 30; e++ {
		r := pack.New(b)
		r.Fail(e)
		if got := conf.Get(r); !same(got, api.Conf{}) || r.End() != e {
			t.Errorf("P10.1: Get of a reader with the error %d: %v, %d", e, got, r.End())
		}
	}
	// Behind one that failed nothing is taken any more.
	r := pack.New(append([]byte{0, 0, 0}, b...))
	for range 3 {
		if got := conf.Get(r); !same(got, api.Conf{}) || r.End() != api.ErrForm {
			t.Errorf("P10.1: Get behind one that may not be: %v, %v", got, r.End())
		}
	}
	r = pack.New(b)
	if got := conf.Get(r); !same(got, stable(0, 3)) || r.End() != api.OK {
		t.Errorf("P10.1: Get of %x: %v, %v", b, got, r.End())
	}
	if got := conf.Get(r); !same(got, api.Conf{}) || r.End() != api.ErrShort {
		t.Errorf("P10.1: Get at a reader's end: %v, %v", got, r.End())
	}
}
