package pack_test

import (
	"bytes"
	"encoding/binary"
	"math"
	"testing"

	"scrutineer/pack"
)

// edges are numbers about each place where one more byte, or one more bit, is taken.
func edges() []uint64 {
	l := []uint64{0, math.MaxUint64, 300, 0xdeadbeef, math.MaxUint64 / 3}
	for i := range 64 {
		p := uint64(1) << i
		l = append(l, p-1, p, p+1)
	}
	return l
}

func TestPutNumTable(t *testing.T) {
	table := []struct {
		n    uint64
		want string
	}{
		{0, "\x00"},
		{1, "\x01"},
		{127, "\x7f"},
		{128, "\x80\x01"},
		{300, "\xac\x02"},
		{16383, "\xff\x7f"},
		{16384, "\x80\x80\x01"},
		{1<<63 - 1, "\xff\xff\xff\xff\xff\xff\xff\xff\x7f"},
		{1 << 63, "\x80\x80\x80\x80\x80\x80\x80\x80\x80\x01"},
		{math.MaxUint64, "\xff\xff\xff\xff\xff\xff\xff\xff\xff\x01"},
	}
	for _, c := range table {
		if got := pack.PutNum(nil, c.n); string(got) != c.want {
			t.Errorf("P1.1: PutNum of %d: %x, not %x", c.n, got, c.want)
		}
	}
	for _, n := range edges() {
		if got, want := pack.PutNum(nil, n), binary.AppendUvarint(nil, n); !bytes.Equal(got, want) {
			t.Errorf("P1.1: PutNum of %d: %x, not %x", n, got, want)
		}
	}
}

func TestPutIntTable(t *testing.T) {
	table := []struct {
		n    int64
		want string
	}{
		{0, "\x00"},
		{-1, "\x01"},
		{1, "\x02"},
		{-2, "\x03"},
		{63, "\x7e"},
		{-64, "\x7f"},
		{64, "\x80\x01"},
		{-65, "\x81\x01"},
		{math.MaxInt64, "\xfe\xff\xff\xff\xff\xff\xff\xff\xff\x01"},
		{math.MinInt64, "\xff\xff\xff\xff\xff\xff\xff\xff\xff\x01"},
	}
	for _, c := range table {
		if got := pack.PutInt(nil, c.n); string(got) != c.want {
			t.Errorf("P1.1: PutInt of %d: %x, not %x", c.n, got, c.want)
		}
	}
	for _, u := range edges() {
		n := int64(u)
		if got, want := pack.PutInt(nil, n), binary.AppendVarint(nil, n); !bytes.Equal(got, want) {
			t.Errorf("P1.1: PutInt of %d: %x, not %x", n, got, want)
		}
	}
}

func TestPutRowTable(t *testing.T) {
	for _, c := range []struct{ row, want string }{
		{"", "\x00"},
		{"\x00", "\x01\x00"},
		{"abc", "\x03abc"},
	} {
		if got := pack.PutRow(nil, []byte(c.row)); string(got) != c.want {
			t.Errorf("P1.1: PutRow of %q: %q, not %q", c.row, got, c.want)
		}
	}
	for _, n := range []int{127, 128, 300, 16384} {
		row := bytes.Repeat([]byte{0xfe}, n)
		want := append(binary.AppendUvarint(nil, uint64(n)), row...)
		if got := pack.PutRow(nil, row); !bytes.Equal(got, want) {
			t.Errorf("P1.1: PutRow of %d bytes: %d bytes", n, len(got))
		}
	}
}

// puts are the ways to put something behind bytes.
func puts() map[string]func(b []byte) []byte {
	return map[string]func(b []byte) []byte{
		"PutNum":           func(b []byte) []byte { return pack.PutNum(b, 300) },
		"PutInt":           func(b []byte) []byte { return pack.PutInt(b, -300) },
		"PutRow":           func(b []byte) []byte { return pack.PutRow(b, []byte("row")) },
		"PutRow of itself": func(b []byte) []byte { return pack.PutRow(b, b) },
		"PutRow of none":   func(b []byte) []byte { return pack.PutRow(b, nil) },
	}
}

func TestPutsStandBehindBytes(t *testing.T) {
	for _, head := range []string{"", "a", "\xff\x00\x80"} {
		for name, put := range map[string]func(b []byte) []byte{
			"PutNum": func(b []byte) []byte { return pack.PutNum(b, 16384) },
			"PutInt": func(b []byte) []byte { return pack.PutInt(b, 16384) },
			"PutRow": func(b []byte) []byte { return pack.PutRow(b, []byte{0, 255}) },
		} {
			want := head + string(put(nil))
			if got := put([]byte(head)); string(got) != want {
				t.Errorf("P1.1: %s behind %q: %q, not %q", name, head, got, want)
			}
		}
	}
}

func TestPutsLeaveWhatIsHandedIn(t *testing.T) {
	for name, put := range puts() {
		room := bytes.Repeat([]byte{7}, 64)
		b := room[:2]
		first := put(b)
		if !bytes.Equal(room, bytes.Repeat([]byte{7}, 64)) {
			t.Errorf("P0.3: %s changed what it was handed, or the room behind it", name)
		}
		second := put(b)
		keep := bytes.Clone(second)
		whole := first[:cap(first)]
		for i := range whole {
			whole[i] = 9
		}
		if !bytes.Equal(room, bytes.Repeat([]byte{7}, 64)) {
			t.Errorf("P0.3: what %s answered shares memory with what it was handed", name)
		}
		if !bytes.Equal(second, keep) {
			t.Errorf("P0.3: two answers of %s share memory", name)
		}
		if third := put(b); !bytes.Equal(third, keep) {
			t.Errorf("P0.5: %s answers %x, and then %x", name, keep, third)
		}
	}
}

func TestPutRowLeavesTheRow(t *testing.T) {
	room := []byte("rowroom")
	row := room[:3]
	got := pack.PutRow(nil, row)
	for i := range got {
		got[i] = 0
	}
	if string(room) != "rowroom" {
		t.Errorf("P0.3: the row is %q behind a write into the answer", room)
	}
	got = pack.PutRow(nil, row)
	row[0] = 'x'
	if string(got) != "\x03row" {
		t.Errorf("P0.3: the answer is %q behind a write into the row", got)
	}
}

func TestPutsTakeNilAsEmpty(t *testing.T) {
	for name, put := range puts() {
		if a, b := put(nil), put([]byte{}); !bytes.Equal(a, b) {
			t.Errorf("P0.4: %s of nil: %x, of empty bytes: %x", name, a, b)
		}
	}
	if a, b := pack.PutRow(nil, nil), pack.PutRow(nil, []byte{}); !bytes.Equal(a, b) {
		t.Errorf("P0.4: PutRow of a nil row: %x, of an empty one: %x", a, b)
	}
}
