package table_test

import (
	"bytes"
	"math/rand"
	"strings"
	"testing"

	"scrutineer/api"
	"scrutineer/table"
)

// high is the highest number's bytes.
const high = "\xff\xff\xff\xff\xff\xff\xff\xff\xff\x01"

func TestPutTable(t *testing.T) {
	for _, x := range []struct {
		t    api.Table
		want string
	}{
		{api.Table{States: 1}, "\x01\x00\x00"},
		{api.Table{States: 32, Vars: 8}, "\x20\x08\x00"},
		{api.Table{States: 1, Rules: []api.Rule{}}, "\x01\x00\x00"},
		{api.Table{States: 1, Rules: []api.Rule{{}, {}}}, "\x01\x00\x02" + strings.Repeat("\x00\x00\x00\x00\x00\x00\x00", 2)},
		{
			plain(), "\x03\x02\x03" +
				"\x00\x01\x02\x01" + "\x00" + "\x00" + "\x00" +
				"\x01\x03\x04\x02" + "\x03\x02\x00\x03\x00\x07\x00" +
				"\x02" + "\x00\x01\x02\x02" + "\x01\x01\x01\x0d" +
				"\x02" + "\x05\x06\x01\x03\x00" + "\x00\x00\x01\x02\x02" +
				"\x02\x00\x00\x00" + "\x00" + "\x00" + "\x00",
		},
		{
			api.Table{States: 32, Vars: 8, Rules: []api.Rule{{From: 31, Action: 30, Party: 7, To: 29, Guard: c(-1 << 63), Sets: []api.Set{{Var: 7, Value: c(64)}}}}},
			"\x20\x08\x01\x1f\x1e\x07\x1d\x01\x01" + high + "\x01\x07\x01\x01\x80\x01\x00",
		},
	} {
		if b, e := table.Put(x.t); string(b) != x.want || e != api.OK {
			t.Errorf("P5.1: Put of %v: %q, %v, not %q", x.t, b, e, x.want)
		}
		if y, e := table.Get([]byte(x.want)); !same(y, x.t) || e != api.OK {
			t.Errorf("P5.1: Get of %q: %v, %v, not %v", x.want, y, e, x.t)
		}
	}
}

func TestPutOfContractsThatMayNotBe(t *testing.T) {
	for _, x := range []api.Table{
		{},
		{States: -1},
		{States: 33},
		{States: 1, Vars: -1},
		{States: 1, Vars: 9},
		{States: 1, Rules: make([]api.Rule, 33)},
		{States: 1, Rules: []api.Rule{{From: -1}}},
		{States: 1, Rules: []api.Rule{{To: 1}}},
		{States: 1, Rules: []api.Rule{{Guard: v(0)}}},
		{States: 1, Rules: []api.Rule{{Emits: []api.Emit{{}}}}},
	} {
		if b, e := table.Put(x); len(b) > 0 || e != api.ErrTable {
			t.Errorf("P5.1: Put of %v: %x, %v", x, b, e)
		}
	}
}

func TestGetTable(t *testing.T) {
	const (
		k1000 = "\xe8\x07"
		k1001 = "\xe9\x07"
		k255  = "\xff\x01"
		k256  = "\x80\x02"
		zero2 = "\x80\x00"
		// head is a contract's up to its only rule, rule that one's four numbers.
		head = "\x01\x08\x01"
		rule = "\x00\x00\x00\x00"
		// set and emit go up to the formula of the first one.
		set  = head + rule + "\x00\x01\x00"
		emit = head + rule + "\x00\x00\x01\x00\x00"
	)
	toks := func(n int) string { return string(rune(n)) + "\x03\x00" + strings.Repeat("\x0b\x00", n-1) }
	for _, x := range []struct {
		b string
		e api.Errno
	}{
		{"", api.ErrShort},
		{"\x01", api.ErrShort},
		{"\x01\x00", api.ErrShort},
		{"\x01\x00\x01", api.ErrShort},
		{"\x01\x00\x81", api.ErrShort},
		{head + "\x00\x00\x00", api.ErrShort},
		{head + rule, api.ErrShort},
		{head + rule + "\x00", api.ErrShort},
		{head + rule + "\x00\x00", api.ErrShort},
		{head + rule + "\x01", api.ErrShort},
		{head + rule + "\x01\x03", api.ErrShort},
		{head + rule + "\x18\x03\x00", api.ErrShort},
		{set, api.ErrShort},
		{emit, api.ErrShort},
		{"\x01\x00\x20", api.ErrShort},

		{"\x01\x00\x00", api.OK},
		{head + rule + "\x00\x00\x00", api.OK},
		{head + rule + toks(24) + "\x00\x00", api.OK},
		{set + toks(24) + "\x00", api.OK},
		{emit + toks(24), api.OK},
		{"\x01\x00\x20" + strings.Repeat(rule+"\x00\x00\x00", 32), api.OK},

		{zero2 + "\x00\x00", api.ErrForm},
		{"\x01" + zero2 + "\x00", api.ErrForm},
		{"\x01\x00" + zero2, api.ErrForm},
		{head + "\x00\x00\x00" + zero2, api.ErrForm},
		{head + rule + zero2, api.ErrForm},
		{head + rule + "\x00" + zero2, api.ErrForm},
		{head + rule + "\x00\x00" + zero2, api.ErrForm},
		{head + rule + "\x01" + zero2 + "\x00", api.ErrForm},
		{head + rule + "\x01\x03" + zero2, api.ErrForm},
		{high[:9] + "\x02\x00\x00", api.ErrForm},
		{head + rule + "\x01\x01" + high[:9] + "\x02", api.ErrForm},

		// How many of each.
		{"\x01\x00\x21", api.ErrRange},
		{"\x01\x00\x21" + strings.Repeat(rule+"\x00\x00\x00", 33), api.ErrRange},
		{"\x01\x00" + high, api.ErrRange},
		{head + rule + "\x19", api.ErrRange},
		{head + rule + toks(25) + "\x00\x00", api.ErrRange},
		{head + rule + "\x00\x09", api.ErrRange},
		{head + rule + "\x00\x08", api.ErrShort},
		{head + rule + "\x00\x00\x05", api.ErrRange},
		{head + rule + "\x00\x00\x04", api.ErrShort},
		{set + "\x19", api.ErrRange},
		{emit + "\x19", api.ErrRange},
		{head + rule + high, api.ErrRange},
		{head + rule + "\x00" + high, api.ErrRange},
		{head + rule + "\x00\x00" + high, api.ErrRange},

		// Ops and Targets.
		{head + rule + "\x01" + k255 + "\x00\x00\x00", api.ErrTable},
		{head + rule + "\x01" + k256 + "\x00\x00\x00", api.ErrRange},
		{head + rule + "\x01" + k256, api.ErrRange},
		{set + "\x01" + k255 + "\x00\x00", api.ErrTable},
		{set + "\x01" + k256 + "\x00\x00", api.ErrRange},
		{emit + "\x01" + k255 + "\x00", api.ErrTable},
		{emit + "\x01" + k256 + "\x00", api.ErrRange},
		{head + rule + "\x00\x00\x01" + k255 + "\x00\x01\x03\x00", api.ErrTable},
		{head + rule + "\x00\x00\x01" + k256 + "\x00\x01\x03\x00", api.ErrRange},

		// All others.
		{k1000 + "\x00\x00", api.ErrTable},
		{k1001 + "\x00\x00", api.ErrRange},
		{"\x01" + k1000 + "\x00", api.ErrTable},
		{"\x01" + k1001 + "\x00", api.ErrRange},
		{head + k1000 + "\x00\x00\x00\x00\x00\x00", api.ErrTable},
		{head + k1001 + "\x00\x00\x00\x00\x00\x00", api.ErrRange},
		{head + "\x00" + k1000 + "\x00\x00\x00\x00\x00", api.ErrTable},
		{head + "\x00" + k1001 + "\x00\x00\x00\x00\x00", api.ErrRange},
		{head + "\x00\x00" + k1000 + "\x00\x00\x00\x00", api.ErrTable},
		{head + "\x00\x00" + k1001 + "\x00\x00\x00\x00", api.ErrRange},
		{head + "\x00\x00\x00" + k1000 + "\x00\x00\x00", api.ErrTable},
		{head + "\x00\x00\x00" + k1001 + "\x00\x00\x00", api.ErrRange},
		{head + rule + "\x00\x01" + k1000 + "\x01\x03\x00\x00", api.ErrTable},
		{head + rule + "\x00\x01" + k1001 + "\x01\x03\x00\x00", api.ErrRange},
		{head + rule + "\x00\x00\x01\x00" + k1000 + "\x01\x03\x00", api.ErrTable},
		{head + rule + "\x00\x00\x01\x00" + k1001 + "\x01\x03\x00", api.ErrRange},
		// A formula's whole numbers have no limit.
		{head + rule + "\x01\x01" + high + "\x00\x00", api.OK},

		{"\x01\x00\x00\x00", api.ErrLong},
		{head + rule + "\x00\x00\x00\x07", api.ErrLong},
		{"\x00\x00\x00", api.ErrTable},
		{"\x21\x00\x00", api.ErrTable},
		{"\x01\x09\x00", api.ErrTable},
		{head + "\x01\x00\x00\x00\x00\x00\x00", api.ErrTable},
		{head + "\x00\x20\x00\x00\x00\x00\x00", api.ErrTable},
		{head + "\x00\x00\x08\x00\x00\x00\x00", api.ErrTable},
		{head + rule + "\x00\x02\x00\x01\x03\x00\x00\x01\x03\x00\x00", api.ErrTable},
		{set + "\x00\x00", api.ErrTable},
		{emit + "\x00", api.ErrTable},

		// P0.2: the first error from the front; ErrLong ahead of ErrTable.
		{k1001 + zero2, api.ErrRange},
		{zero2 + k1001, api.ErrForm},
		{k1001, api.ErrRange},
		{"\x01\x00\x21" + zero2, api.ErrRange},
		{"\x00\x00\x21", api.ErrRange},
		{"\x00\x00\x01", api.ErrShort},
		{"\x00\x00\x00\x00", api.ErrLong},
		{"\x00\x00\x00" + zero2, api.ErrLong},
		{"\x00" + zero2 + "\x00", api.ErrForm},
		{head + "\x09\x00\x00\x00\x00\x00\x00\x00", api.ErrLong},
	} {
		y, e := table.Get([]byte(x.b))
		if e != x.e {
			t.Errorf("P5.1: Get of %q: %v, not %v", x.b, e, x.e)
		}
		if e != api.OK && !same(y, api.Table{}) {
			t.Errorf("P0.2: Get of %q: %v beside %v", x.b, y, e)
		}
		if b, f := table.Put(y); e == api.OK && (f != api.OK || string(b) != x.b) {
			t.Errorf("P5.2: %q is got, but put as %q, %v", x.b, b, f)
		}
	}
}

// backAndForth puts a contract, gets it, and puts that.
func backAndForth(t *testing.T, x api.Table) []byte {
	t.Helper()
	b, e := table.Put(x)
	y, g := table.Get(b)
	again, h := table.Put(y)
	if e != api.OK || g != api.OK || h != api.OK || !same(x, y) || !bytes.Equal(again, b) {
		t.Fatalf("P5.2: %v is put, but %v is got: %v, %v, %v", x, y, e, g, h)
	}
	return b
}

func TestWhatIsPutIsGot(t *testing.T) {
	rnd := rand.New(rand.NewSource(3))
	backAndForth(t, plain())
	backAndForth(t, sale())
	backAndForth(t, largest())
	for range 5000 {
		backAndForth(t, contract(rnd))
	}
	for _, n := range []int64{-1 << 63, -1<<63 + 1, -65, -64, -1, 0, 1, 63, 64, 1<<63 - 2, 1<<63 - 1} {
		backAndForth(t, api.Table{States: 1, Vars: 1, Rules: []api.Rule{{Guard: c(n), Sets: []api.Set{{Value: c(n)}}, Emits: []api.Emit{{Arg: c(n)}}}}})
	}
}

// gotAsSaid holds Get of bytes against the model, and puts what is got.
func gotAsSaid(t *testing.T, b []byte) api.Errno {
	t.Helper()
	want, e := (&getModel{b: b}).table()
	got, g := table.Get(b)
	if g != e || !same(got, want) {
		t.Fatalf("P5.1: Get of %x: %v, %v, not %v, %v", b, got, g, want, e)
	}
	if g == api.OK {
		if again, h := table.Put(got); h != api.OK || !bytes.Equal(again, b) {
			t.Fatalf("P5.2: %x is got, but put as %x, %v", b, again, h)
		}
	}
	return g
}

func TestGetOfCutBytes(t *testing.T) {
	for _, x := range []api.Table{plain(), sale()} {
		b, _ := table.Put(x)
		for n := range b {
			if y, e := table.Get(b[:n]); e != api.ErrShort || !same(y, api.Table{}) {
				t.Errorf("P5.1: Get of the first %d bytes of %x: %v, %v", n, b, y, e)
			}
		}
		if y, e := table.Get(append(b, 0)); e != api.ErrLong || !same(y, api.Table{}) {
			t.Errorf("P5.1: Get of %x and a byte: %v, %v", b, y, e)
		}
	}
}

func TestGetOfEachByteChanged(t *testing.T) {
	for _, x := range []api.Table{plain(), sale()} {
		b, _ := table.Put(x)
		for at := range b {
			for n := range 256 {
				y := bytes.Clone(b)
				y[at] = byte(n)
				gotAsSaid(t, y)
			}
		}
	}
}

func TestGetOfSpoiltBytes(t *testing.T) {
	rnd := rand.New(rand.NewSource(4))
	parts := []string{"\x00", "\x01", "\x04", "\x05", "\x08", "\x09", "\x18", "\x19", "\x20", "\x21", "\x7f", "\x80", "\x80\x00", "\xff\x01", "\x80\x02", "\xe8\x07", "\xe9\x07", high, ""}
	came := map[api.Errno]int{}
	for range 20_000 {
		b, _ := table.Put(contract(rnd))
		for range 1 + rnd.Intn(2) {
			at := rnd.Intn(len(b))
			end := at + rnd.Intn(2)
			b = append(append(bytes.Clone(b[:at]), parts[rnd.Intn(len(parts))]...), b[end:]...)
			if len(b) == 0 {
				break
			}
		}
		came[gotAsSaid(t, b)]++
	}
	for _, e := range []api.Errno{api.OK, api.ErrShort, api.ErrForm, api.ErrRange, api.ErrLong, api.ErrTable} {
		if came[e] < 200 {
			t.Errorf("P5.1: the bytes that are tried come to %v only %d times", e, came[e])
		}
	}
}

func TestGetOfAllShortBytes(t *testing.T) {
	for n := range 1 << 24 {
		if n%251 != 0 && n>>16 > 2 {
			continue
		}
		gotAsSaid(t, []byte{byte(n >> 16), byte(n >> 8), byte(n)})
	}
}
