package pack_test

import (
	"bytes"
	"math"
	"strings"
	"testing"

	"scrutineer/api"
	"scrutineer/pack"
)

// nine are the first nine bytes of numbers of more than 63 bits.
const nine = "\xff\xff\xff\xff\xff\xff\xff\xff\xff"

func TestNum(t *testing.T) {
	const all = math.MaxUint64
	table := []struct {
		b    string
		most uint64
		want uint64
		end  api.Errno
	}{
		{"\x00", all, 0, api.OK},
		{"\x00", 0, 0, api.OK},
		{"\x7f", 127, 127, api.OK},
		{"\xac\x02", all, 300, api.OK},
		{"\xac\x02", 300, 300, api.OK},
		{nine + "\x01", all, all, api.OK},
		{"\x80\x80\x80\x80\x80\x80\x80\x80\x80\x01", 1 << 63, 1 << 63, api.OK},
		{"\x05\x06", all, 5, api.ErrLong},

		{"", all, 0, api.ErrShort},
		{"", 0, 0, api.ErrShort},
		{"\x80", all, 0, api.ErrShort},
		{"\xff\xff", all, 0, api.ErrShort},
		{nine, all, 0, api.ErrShort},

		{"\x80\x00", all, 0, api.ErrForm},
		{"\xff\x80\x00", all, 0, api.ErrForm},
		{nine + "\x00", all, 0, api.ErrForm},
		{nine + "\x02", all, 0, api.ErrForm},
		{nine + "\x7f", all, 0, api.ErrForm},
		{nine + "\x80", all, 0, api.ErrForm},
		{nine + "\x81", all, 0, api.ErrForm},
		{nine + "\xff\x01", all, 0, api.ErrForm},

		{"\x01", 0, 0, api.ErrRange},
		{"\xac\x02", 299, 0, api.ErrRange},
		{nine + "\x01", all - 1, 0, api.ErrRange},
		{"\x02rest", 1, 0, api.ErrRange},
		// P0.2: what is met first counts, though the number is above most already.
		{"\xff", 0, 0, api.ErrShort},
		{"\xff\x00", 0, 0, api.ErrForm},
		{nine + "\x02", 0, 0, api.ErrForm},
	}
	for _, c := range table {
		r := pack.New([]byte(c.b))
		if n := r.Num(c.most); n != c.want {
			t.Errorf("P1.1: Num(%d) of %q: %d, not %d", c.most, c.b, n, c.want)
		}
		if e := r.End(); e != c.end {
			t.Errorf("P1.1: End behind Num(%d) of %q: %v, not %v", c.most, c.b, e, c.end)
		}
	}
}

func TestInt(t *testing.T) {
	table := []struct {
		b    string
		want int64
		end  api.Errno
	}{
		{"\x00", 0, api.OK},
		{"\x01", -1, api.OK},
		{"\x02", 1, api.OK},
		{"\x7f", -64, api.OK},
		{"\x80\x01", 64, api.OK},
		{"\xfe" + nine[1:] + "\x01", math.MaxInt64, api.OK},
		{nine + "\x01", math.MinInt64, api.OK},
		{"\x01\x00", -1, api.ErrLong},
		{"", 0, api.ErrShort},
		{"\x81", 0, api.ErrShort},
		{"\x81\x00", 0, api.ErrForm},
		{nine + "\x03", 0, api.ErrForm},
	}
	for _, c := range table {
		r := pack.New([]byte(c.b))
		if n := r.Int(); n != c.want {
			t.Errorf("P1.1: Int of %q: %d, not %d", c.b, n, c.want)
		}
		if e := r.End(); e != c.end {
			t.Errorf("P1.1: End behind Int of %q: %v, not %v", c.b, e, c.end)
		}
	}
}

func TestRow(t *testing.T) {
	long := strings.Repeat("x", 300)
	table := []struct {
		b    string
		most int
		want string
		end  api.Errno
	}{
		{"\x00", 0, "", api.OK},
		{"\x00", math.MaxInt, "", api.OK},
		{"\x03abc", 3, "abc", api.OK},
		{"\x03abc", math.MaxInt, "abc", api.OK},
		{"\xac\x02" + long, 300, long, api.OK},
		{"\x02abc", 2, "ab", api.ErrLong},

		{"\x00", -1, "", api.OK},
		{"\x00", math.MinInt, "", api.OK},
		{"\x01a", -1, "", api.ErrLong},
		{"\x01a", math.MinInt, "", api.ErrLong},
		{"\x01a", 0, "", api.ErrLong},

		{"", 9, "", api.ErrShort},
		{"\x80", 9, "", api.ErrShort},
		{"\x80\x00", 9, "", api.ErrForm},
		{nine + "\x02", 9, "", api.ErrForm},
		{"\x03ab", 9, "", api.ErrShort},
		{"\x01", 9, "", api.ErrShort},
		{"\x03abc", 2, "", api.ErrLong},
		{"\xac\x02" + long, 299, "", api.ErrLong},
		// P0.2: its length is held against most ahead of the bytes that are there.
		{"\x03ab", 2, "", api.ErrLong},
		{nine + "\x01", math.MaxInt, "", api.ErrLong},
		{"\x80\x80\x80\x80\x80\x80\x80\x80\x80\x01", math.MaxInt, "", api.ErrLong},
		{"\xff\xff\xff\xff\xff\xff\xff\xff\x7f", math.MaxInt, "", api.ErrShort},
	}
	for _, c := range table {
		r := pack.New([]byte(c.b))
		if b := r.Row(c.most); string(b) != c.want {
			t.Errorf("P1.1: Row(%d) of %q: %q, not %q", c.most, c.b, b, c.want)
		}
		if e := r.End(); e != c.end {
			t.Errorf("P1.1: End behind Row(%d) of %q: %v, not %v", c.most, c.b, e, c.end)
		}
	}
}

func TestEndTakesNothing(t *testing.T) {
	r := pack.New([]byte("\x05\x06"))
	end := func(want api.Errno) {
		t.Helper()
		for range 2 {
			if e := r.End(); e != want {
				t.Errorf("P1.1: End is %v, not %v", e, want)
			}
		}
	}
	take := func(want uint64) {
		t.Helper()
		if n := r.Num(9); n != want {
			t.Errorf("P1.1: Num behind End is %d, not %d", n, want)
		}
	}
	end(api.ErrLong)
	take(5)
	end(api.ErrLong)
	take(6)
	end(api.OK)
	take(0)
	end(api.ErrShort)
}

func TestFail(t *testing.T) {
	for _, e := range []api.Errno{api.ErrArg, api.ErrKind, api.ErrCells, 99, 100, -1, math.MaxInt, math.MinInt} {
		r := pack.New([]byte("\x01\x02"))
		r.Num(9)
		r.Fail(e)
		if x := r.End(); x != e {
			t.Errorf("P1.1: End behind Fail(%d): %d", int(e), int(x))
		}
		r.Fail(api.ErrRange)
		r.Fail(api.OK)
		if x := r.End(); x != e {
			t.Errorf("P1.1: End behind Fail(%d) and others: %d", int(e), int(x))
		}
	}
	r := pack.New([]byte("\x01\x02"))
	r.Fail(api.OK)
	if n := r.Num(9); n != 1 || r.End() != api.ErrLong {
		t.Error("P1.1: Fail(OK) is no error:", n, r.End())
	}
	r.Num(1)
	r.Fail(api.ErrArg)
	if e := r.End(); e != api.ErrRange {
		t.Error("P1.1: Fail behind an error:", e)
	}
}

// failed are readers with bytes that could be taken, but an error, by what made it.
func failed() map[string]*pack.Reader {
	tail := strings.Repeat("\x01", 20)
	m := map[string]*pack.Reader{}
	add := func(name, b string, call func(r *pack.Reader)) {
		m[name] = pack.New([]byte(b + tail))
		call(m[name])
	}
	add("Fail", "", func(r *pack.Reader) { r.Fail(api.ErrForm) })
	add("Num, ErrForm", "\x80\x00", func(r *pack.Reader) { r.Num(9) })
	add("Num, ErrRange", "\x05", func(r *pack.Reader) { r.Num(4) })
	add("Int, ErrForm", "\x80\x00", func(r *pack.Reader) { r.Int() })
	add("Row, ErrForm", "\x80\x00", func(r *pack.Reader) { r.Row(9) })
	add("Row, ErrLong", "\x05", func(r *pack.Reader) { r.Row(4) })
	add("Row, ErrShort", "\x7f", func(r *pack.Reader) { r.Row(127) })
	return m
}

func TestFirstErrorStays(t *testing.T) {
	for name, r := range failed() {
		e := r.End()
		if e == api.OK {
			t.Errorf("P1.1: %s: no error", name)
		}
		for range 3 {
			if n := r.Num(math.MaxUint64); n != 0 {
				t.Errorf("P1.1: Num behind %s: %d", name, n)
			}
			if n := r.Num(0); n != 0 {
				t.Errorf("P1.1: Num(0) behind %s: %d", name, n)
			}
			if n := r.Int(); n != 0 {
				t.Errorf("P1.1: Int behind %s: %d", name, n)
			}
			if b := r.Row(100); len(b) != 0 {
				t.Errorf("P1.1: Row behind %s: %q", name, b)
			}
			if b := r.Row(-1); len(b) != 0 {
				t.Errorf("P1.1: Row(-1) behind %s: %q", name, b)
			}
			r.Fail(api.ErrArg)
			if x := r.End(); x != e {
				t.Errorf("P1.1: End behind %s: %v, and then %v", name, e, x)
			}
		}
	}
}

func TestNilReader(t *testing.T) {
	var r *pack.Reader
	for range 2 {
		if n := r.Num(math.MaxUint64); n != 0 {
			t.Error("P1.1: Num of a nil reader:", n)
		}
		if n := r.Int(); n != 0 {
			t.Error("P1.1: Int of a nil reader:", n)
		}
		if b := r.Row(9); len(b) != 0 {
			t.Error("P1.1: Row of a nil reader:", b)
		}
		if e := r.End(); e != api.ErrArg {
			t.Error("P1.1: End of a nil reader:", e)
		}
		r.Fail(api.ErrForm)
	}
}

func TestZeroReaderIsLikeNil(t *testing.T) {
	calls := map[string]func(r *pack.Reader) bool{
		"Num": func(r *pack.Reader) bool { return r.Num(9) == 0 },
		"Int": func(r *pack.Reader) bool { return r.Int() == 0 },
		"Row": func(r *pack.Reader) bool { return len(r.Row(9)) == 0 },
		"End": func(r *pack.Reader) bool { return r.End() == api.ErrArg },
		"Fail": func(r *pack.Reader) bool {
			r.Fail(api.ErrForm)
			return r.End() == api.ErrArg
		},
	}
	for name, call := range calls {
		func() {
			// P0.6 lets it panic, too.
			defer func() { _ = recover() }()
			if !call(&pack.Reader{}) {
				t.Errorf("P0.6: %s of a zero value is not as of a nil reader", name)
			}
		}()
	}
}

func TestReaderKeepsNothingOfTheBytes(t *testing.T) {
	room := []byte("\x03abc\x07room")
	r := pack.New(room[:5])
	for i := range room {
		room[i] = 0x55
	}
	row := r.Row(3)
	if string(row) != "abc" {
		t.Errorf("P0.3: the reader reads what was written behind New: %q", row)
	}
	for i := range row[:cap(row)] {
		row[:cap(row)][i] = 0
	}
	if n := r.Num(9); n != 7 || r.End() != api.OK {
		t.Error("P0.3: a write into a row, and the room behind it, changed the reader:", n, r.End())
	}
	if !bytes.Equal(room, bytes.Repeat([]byte{0x55}, len(room))) {
		t.Errorf("P0.3: the bytes that were handed in are %q", room)
	}
}

func TestRowsAreNewMemory(t *testing.T) {
	b := []byte("\x02ab\x02cd")
	r := pack.New(b)
	first, second := r.Row(2), r.Row(2)
	first = append(first, "xyz"...)
	first[0] = 'X'
	if string(second) != "cd" || string(b) != "\x02ab\x02cd" {
		t.Errorf("P0.3: a write into a row changed another one, %q, or the bytes, %q", second, b)
	}
}

func TestReaderTakesNilAsEmpty(t *testing.T) {
	for _, b := range [][]byte{nil, {}} {
		if e := pack.New(b).End(); e != api.OK {
			t.Error("P0.4: End of a reader of nothing:", e)
		}
		r := pack.New(b)
		if n := r.Num(9); n != 0 || r.End() != api.ErrShort {
			t.Error("P0.4: Num of a reader of nothing:", n, r.End())
		}
	}
}

func TestReadersAreApart(t *testing.T) {
	b := []byte("\x01\x02")
	x, y := pack.New(b), pack.New(b)
	x.Num(9)
	x.Fail(api.ErrKind)
	if n := y.Num(9); n != 1 || y.Num(9) != 2 || y.End() != api.OK {
		t.Error("P0.5: a reader hangs on what another one was told")
	}
}
