package record_test

import (
	"bytes"
	"encoding/binary"
	"math"
	"math/rand"
	"reflect"
	"strings"
	"testing"

	"scrutineer/api"
	"scrutineer/ballot"
	"scrutineer/conf"
	"scrutineer/pack"
	"scrutineer/record"
	"scrutineer/reg"
)

// numbers are those numbers' bytes.
func numbers(b []byte, l ...uint64) []byte {
	for _, n := range l {
		b = binary.AppendUvarint(b, n)
	}
	return b
}

// regBytes are a register's bytes, as layer 6 puts them; of one that may not be none.
func regBytes(r api.Reg) []byte {
	b, _ := reg.Put(nil, r)
	return b
}

// bytesOf are a record's bytes, whether it may be or not.
func bytesOf(r api.Rec) []byte {
	b := numbers(nil, uint64(r.Kind))
	switch r.Kind {
	case api.RecSlot:
		b = ballot.Put(ballot.Put(numbers(b, uint64(r.Key)), r.Promise), r.Acc)
		return append(b, regBytes(r.Reg)...)
	case api.RecGone:
		return numbers(b, uint64(r.Key))
	case api.RecFence:
		return numbers(b, r.Fence)
	case api.RecLife:
		return numbers(b, uint64(r.Life))
	case api.RecConf:
		return conf.Put(b, r.Conf)
	}
	return b
}

func TestPutTable(t *testing.T) {
	for _, x := range []struct {
		r    api.Rec
		want string
	}{
		{api.Rec{Kind: api.RecGone, Key: 3}, "\x02\x03"},
		{api.Rec{Kind: api.RecGone}, "\x02\x00"},
		{api.Rec{Kind: api.RecGone, Key: 15}, "\x02\x0f"},
		{api.Rec{Kind: api.RecFence, Fence: 300}, "\x03\xac\x02"},
		{api.Rec{Kind: api.RecFence, Fence: math.MaxUint64}, "\x03" + big},
		{api.Rec{Kind: api.RecLife, Life: 1}, "\x04\x01"},
		{api.Rec{Kind: api.RecLife, Life: math.MaxUint32}, "\x04\xff\xff\xff\xff\x0f"},
		{api.Rec{Kind: api.RecConf, Conf: api.Conf{C: 300, New: of(0, 63)}}, "\x05\xac\x02\x00\x02\x00\x3f"},
		{api.Rec{Kind: api.RecConf, Conf: api.Conf{C: 1, Old: of(3), New: of(3, 9)}}, "\x05\x01\x01\x03\x02\x03\x09"},
		{api.Rec{Kind: api.RecSlot, Key: 5, Promise: under(7, 8, 9)}, "\x01\x05" + "\x07\x08\x09" + "\x00\x00\x00" + "\x00"},
		{api.Rec{Kind: api.RecSlot, Key: 5, Promise: under(128, 255, 129), Acc: under(10, 11, 12), Reg: api.Reg{Kind: api.Tomb, Inc: 13, Last: 14}},
			"\x01\x05" + "\x80\x01\xff\x01\x81\x01" + "\x0a\x0b\x0c" + "\x02\x0d\x00\x00\x00\x00\x0e\x00"},
		{api.Rec{Kind: api.RecSlot, Promise: under(2, 1, 0), Acc: under(2, 1, 0), Reg: api.Reg{Kind: api.Live, Inc: 1, Vars: []int64{-1}}},
			"\x01\x00" + "\x02\x01\x00" + "\x02\x01\x00" + "\x01\x01\x00\x01\x01\x00\x00\x00\x00"},
	} {
		if got, e := record.Put(x.r); e != api.OK || string(got) != x.want {
			t.Errorf("P14.1: Put of %v: %x, %v, not %x", x.r, got, e, x.want)
		}
		if got, e := record.Get([]byte(x.want)); e != api.OK || !alike(got, x.r) {
			t.Errorf("P14.1: Get of %x: %v, %v, not %v", x.want, got, e, x.r)
		}
	}
}

// big and over are the bytes of the highest number, and bytes that can't stand; high is one above 32 bits.
const (
	big  = "\xff\xff\xff\xff\xff\xff\xff\xff\xff\x01"
	over = "\xff\xff\xff\xff\xff\xff\xff\xff\xff\x02"
	high = "\x80\x80\x80\x80\x10"
)

// wholes are records' bytes by their parts, behind the Kind.
func wholes() [][]string {
	return [][]string{
		{"\x01", "\x03", "\x05\x01\x07", "\x03\x01\x07", "\x01\x01\x00\x00\x00\x00\x00\x00"},
		{"\x02", "\x03"},
		{"\x03", "\x07"},
		{"\x04", "\x07"},
		{"\x05", "\x01", "\x01\x03", "\x02\x03\x09"},
	}
}

// spoiltParts are parts of those put otherwise, and what comes of each.
func spoiltParts() []struct {
	whole, at int
	part      string
	err       api.Errno
} {
	return []struct {
		whole, at int
		part      string
		err       api.Errno
	}{
		{0, 0, "", api.ErrShort}, {0, 0, "\x80", api.ErrShort}, {0, 0, "\x80\x02", api.ErrRange}, {0, 0, "\x81\x02", api.ErrRange}, {0, 0, big, api.ErrRange}, {0, 0, over, api.ErrForm}, {0, 0, "\x81\x00", api.ErrForm},
		{0, 0, "\x00", api.ErrKind}, {0, 0, "\x06", api.ErrKind}, {0, 0, "\x09", api.ErrKind}, {0, 0, "\xff\x01", api.ErrKind}, {0, 0, "\x81\x01", api.ErrKind},
		{0, 1, "", api.ErrShort}, {0, 1, "\x80", api.ErrShort}, {0, 1, "\x80\x02", api.ErrRange}, {0, 1, big, api.ErrRange}, {0, 1, "\x83\x00", api.ErrForm}, {0, 1, over, api.ErrForm},
		{0, 2, "", api.ErrShort}, {0, 2, "\x05\x01", api.ErrShort}, {0, 2, "\x05\x80\x02\x07", api.ErrRange}, {0, 2, "\x05\x01" + high, api.ErrRange}, {0, 2, over + "\x01\x01", api.ErrForm}, {0, 2, "\x05\x81\x00\x01", api.ErrForm},
		{0, 3, "", api.ErrShort}, {0, 3, "\x03", api.ErrShort}, {0, 3, "\x03\x80\x02\x07", api.ErrRange}, {0, 3, "\x03\x01" + big, api.ErrRange}, {0, 3, "\x03\x01\x87\x00", api.ErrForm},
		{0, 4, "", api.ErrShort}, {0, 4, "\x01\x01\x00", api.ErrShort}, {0, 4, "\x80\x02", api.ErrRange}, {0, 4, "\x01\x01\xe9\x07\x00\x00\x00\x00\x00", api.ErrRange}, {0, 4, "\x03\x01\x00\x00\x00\x00\x00\x00", api.ErrForm}, {0, 4, "\x01\x00\x00\x00\x00\x00\x00\x00", api.ErrForm}, {0, 4, "\x81\x00", api.ErrForm},
		{1, 1, "", api.ErrShort}, {1, 1, "\x80", api.ErrShort}, {1, 1, "\x80\x02", api.ErrRange}, {1, 1, big, api.ErrRange}, {1, 1, "\x83\x00", api.ErrForm}, {1, 1, over, api.ErrForm},
		{2, 1, "", api.ErrShort}, {2, 1, "\x80", api.ErrShort}, {2, 1, over, api.ErrForm}, {2, 1, "\x87\x00", api.ErrForm},
		{3, 1, "", api.ErrShort}, {3, 1, "\x80\x80", api.ErrShort}, {3, 1, high, api.ErrRange}, {3, 1, big, api.ErrRange}, {3, 1, over, api.ErrForm}, {3, 1, "\x87\x00", api.ErrForm},
		{4, 1, "", api.ErrShort}, {4, 1, over, api.ErrForm}, {4, 1, "\x81\x00", api.ErrForm},
		{4, 2, "", api.ErrShort}, {4, 2, "\x02\x03", api.ErrShort}, {4, 2, "\x41", api.ErrRange}, {4, 2, "\x01\x80\x02", api.ErrRange}, {4, 2, "\x01\x83\x00", api.ErrForm},
		{4, 3, "", api.ErrShort}, {4, 3, "\x02\x03", api.ErrShort}, {4, 3, "\x41", api.ErrRange}, {4, 3, "\x01\x80\x02", api.ErrRange}, {4, 3, "\x02\x03\x40", api.ErrForm}, {4, 3, "\x01\x03", api.ErrForm}, {4, 3, "\x00", api.ErrForm},
	}
}

func TestGetMeetsTheFirstError(t *testing.T) {
	for _, parts := range wholes() {
		if r, e := record.Get([]byte(strings.Join(parts, ""))); e != api.OK || !record.May(r) {
			t.Fatalf("P14.1: Get of %x: %v, %v", parts, r, e)
		}
	}
	for _, x := range spoiltParts() {
		parts := wholes()[x.whole]
		parts[x.at] = x.part
		cut := strings.Join(parts[:x.at+1], "")
		l := []string{cut}
		if x.err != api.ErrShort {
			// What stands behind an error, or is left there, isn't met.
			l = append(l, strings.Join(parts, ""), cut+over+big+"\x80\x02", strings.Join(parts, "")+"\x00", cut+"\x80")
		}
		for _, b := range l {
			if r, e := record.Get([]byte(b)); e != x.err || !alike(r, api.Rec{}) {
				t.Errorf("P14.1: Get of %x: %v, %v, not %v", b, r, e, x.err)
			}
		}
	}
}

func TestGetOfAllKinds(t *testing.T) {
	for kind := range uint64(300) {
		b := numbers(nil, kind)
		want := api.ErrShort
		if kind == 0 || kind > 5 {
			want = api.ErrKind
		}
		if kind > 255 {
			want = api.ErrRange
		}
		for range 2 {
			if r, e := record.Get(b); e != want || !alike(r, api.Rec{}) {
				t.Errorf("P14.1: Get of %x: %v, %v, not %v", b, r, e, want)
			}
			if want != api.ErrShort {
				b = append(b, 3)
			}
		}
	}
}

func TestGetTellsWhatIsLeftAheadOfWhatMayNotBe(t *testing.T) {
	for _, r := range some() {
		for _, left := range []string{"\x00", "\x80", "\x80\x00", "\x07", over} {
			if got, e := record.Get(append(bytesOf(r), left...)); e != api.ErrLong || !alike(got, api.Rec{}) {
				t.Fatalf("P14.1: Get of %v with %x behind it: %v, %v", r, left, got, e)
			}
		}
	}
	count := 0
	for _, r := range faults() {
		// Of others the fault isn't in their bytes, or is met there already.
		inBytes := r.Kind == api.RecSlot && reg.May(r.Reg) || r.Kind == api.RecGone || r.Kind == api.RecFence || r.Kind == api.RecLife
		if !inBytes || mayModel(bytesAlone(r), true, true) {
			continue
		}
		count++
		if got, e := record.Get(bytesOf(r)); e != api.ErrForm || !alike(got, api.Rec{}) {
			t.Fatalf("P14.1: Get of %v: %v, %v", r, got, e)
		}
		if got, e := record.Get(append(bytesOf(r), 0)); e != api.ErrLong || !alike(got, api.Rec{}) {
			t.Fatalf("P14.1: Get of %v with a byte behind it: %v, %v", r, got, e)
		}
	}
	if count < 15 {
		t.Errorf("P14.1: just %d records that may not be are tried", count)
	}
}

// bytesAlone is that of a record which stands in its bytes.
func bytesAlone(r api.Rec) api.Rec {
	x := reflect.ValueOf(&r).Elem()
	for i := range x.NumField() {
		if !isNamed(r.Kind, x.Type().Field(i).Name) {
			x.Field(i).SetZero()
		}
	}
	return r
}

// number is what a number's bytes at the front come to, and what stands behind them.
func number(b []byte, most uint64) (uint64, []byte, api.Errno) {
	var n uint64
	for i, c := range b {
		if i > 0 && c == 0 || i == 9 && c > 1 {
			return 0, nil, api.ErrForm
		}
		n |= uint64(c&127) << (7 * i)
		if c < 128 && n > most {
			return 0, nil, api.ErrRange
		}
		if c < 128 {
			return n, b[i+1:], api.OK
		}
	}
	return 0, nil, api.ErrShort
}

// getModel is what Get answers of bytes; the register is layer 6's, the configuration layer 10's.
func getModel(b []byte) (api.Rec, api.Errno) {
	r, b, e := takeModel(b)
	if e != api.OK {
		return api.Rec{}, e
	}
	if len(b) > 0 {
		return api.Rec{}, api.ErrLong
	}
	if !mayModel(r, true, true) {
		return api.Rec{}, api.ErrForm
	}
	return r, api.OK
}

// takeModel takes a record, and tells what stands behind it.
func takeModel(b []byte) (api.Rec, []byte, api.Errno) {
	const most = math.MaxUint64
	limits := [][]uint64{{}, {255, most, 255, math.MaxUint32, most, 255, math.MaxUint32}, {255}, {most}, {math.MaxUint32}, {}}
	kind, b, e := number(b, 255)
	if e == api.OK && (kind == 0 || kind > 5) {
		e = api.ErrKind
	}
	if e != api.OK {
		return api.Rec{}, nil, e
	}
	var n []uint64
	for _, limit := range limits[kind] {
		var x uint64
		if x, b, e = number(b, limit); e != api.OK {
			return api.Rec{}, nil, e
		}
		n = append(n, x)
	}
	r := api.Rec{Kind: uint8(kind)}
	p := pack.New(b)
	switch r.Kind {
	case 1:
		r.Key, r.Promise, r.Acc = uint8(n[0]), under(n[1], uint8(n[2]), uint32(n[3])), under(n[4], uint8(n[5]), uint32(n[6]))
		r.Reg = reg.Get(p)
		b = b[min(len(b), len(regBytes(r.Reg))):]
	case 2:
		r.Key = uint8(n[0])
	case 3:
		r.Fence = n[0]
	case 4:
		r.Life = uint32(n[0])
	case 5:
		r.Conf = conf.Get(p)
		b = b[min(len(b), len(conf.Put(nil, r.Conf))):]
	}
	if e = p.End(); e == api.ErrLong {
		e = api.OK
	}
	return r, b, e
}

// holdGet holds Get of bytes against its model.
func holdGet(t *testing.T, b []byte) api.Errno {
	t.Helper()
	got, e := record.Get(b)
	if want, f := getModel(b); e != f || !alike(got, want) {
		t.Fatalf("P14.1: Get of %x: %v, %v, not %v, %v", b, got, e, want, f)
	}
	if e != api.OK {
		return e
	}
	if back, f := record.Put(got); f != api.OK || !bytes.Equal(back, b) {
		t.Fatalf("P14.2: %v is got of %x, but put as %x, %v", got, b, back, f)
	}
	return e
}

func TestGetOfChangedBytes(t *testing.T) {
	errs := map[api.Errno]int{}
	for _, r := range some() {
		b := bytesOf(r)
		if len(b) > 150 {
			continue
		}
		for at := range b {
			holdGet(t, b[:at])
			for x := range 256 {
				changed := bytes.Clone(b)
				changed[at] = byte(x)
				errs[holdGet(t, changed)]++
			}
			holdGet(t, append(bytes.Clone(b[:at]), b[at+1:]...))
			holdGet(t, append(append(bytes.Clone(b[:at]), 0), b[at:]...))
		}
	}
	for _, e := range []api.Errno{api.OK, api.ErrShort, api.ErrForm, api.ErrRange, api.ErrLong, api.ErrKind} {
		if errs[e] < 100 {
			t.Errorf("P14.1: what is tried doesn't come to enough: %v", errs)
		}
	}
}

func TestGetOfRandomBytes(t *testing.T) {
	rnd := rand.New(rand.NewSource(2))
	errs := map[api.Errno]int{}
	for range 200_000 {
		b := make([]byte, rnd.Intn(20))
		for i := range b {
			b[i] = byte(rnd.Intn(256) >> rnd.Intn(9))
		}
		if len(b) > 0 && rnd.Intn(4) > 0 {
			b[0] = byte(1 + rnd.Intn(5))
		}
		errs[holdGet(t, b)]++
	}
	for _, e := range []api.Errno{api.OK, api.ErrShort, api.ErrForm, api.ErrRange, api.ErrLong, api.ErrKind} {
		if errs[e] < 1000 {
			t.Errorf("P14.1: what is tried doesn't come to enough: %v", errs)
		}
	}
}

func TestWhatIsPutIsGot(t *testing.T) {
	rnd := rand.New(rand.NewSource(3))
	l := some()
	for range 20_000 {
		l = append(l, random(rnd))
	}
	for _, r := range l {
		b, e := record.Put(r)
		if want := bytesOf(r); e != api.OK || !bytes.Equal(b, want) {
			t.Fatalf("P14.1: Put of %v: %x, %v, not %x", r, b, e, want)
		}
		if got, e := record.Get(b); e != api.OK || !alike(got, r) {
			t.Fatalf("P14.2: %v is put, but got as %v, %v", r, got, e)
		}
	}
}
