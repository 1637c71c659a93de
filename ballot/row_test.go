package ballot_test

import (
	"bytes"
	"encoding/binary"
	"math"
	"math/rand"
	"slices"
	"testing"

	"scrutineer/api"
	"scrutineer/ballot"
)

// grid are all ballots of counts, nodes and lives at the edges, in the row in which they stand.
func grid() []api.Ballot {
	var l []api.Ballot
	for _, c := range []uint64{0, 1, 2, 127, 128, 1<<32 - 1, 1 << 32, 1<<63 - 1, 1 << 63, 1<<63 + 1, math.MaxUint64} {
		for _, n := range []uint8{0, 1, 2, 63, 64, 127, 128, 255} {
			for _, v := range []uint32{0, 1, 2, 127, 128, 1 << 16, 1<<31 - 1, 1 << 31, math.MaxUint32} {
				l = append(l, api.Ballot{Count: c, Node: n, Life: v})
			}
		}
	}
	return l
}

// some is a ballot of which each part is often that of another one.
func some(rnd *rand.Rand) api.Ballot {
	return api.Ballot{
		Count: rnd.Uint64() >> rnd.Intn(65),
		Node:  uint8(rnd.Intn(256) >> rnd.Intn(9)),
		Life:  rnd.Uint32() >> rnd.Intn(33),
	}
}

// key are bytes that stand as the ballots do, the highest ones first.
func key(x api.Ballot) []byte {
	b := binary.BigEndian.AppendUint64(nil, x.Count)
	b = append(b, x.Node)
	return binary.BigEndian.AppendUint32(b, x.Life)
}

func TestCompareTable(t *testing.T) {
	for _, c := range []struct {
		a, b api.Ballot
		want int
	}{
		{api.Ballot{Count: 2, Node: 1}, api.Ballot{Count: 1, Node: 9}, 1},
		{api.Ballot{Count: 1, Node: 9}, api.Ballot{Count: 2, Node: 1}, -1},
		{api.Ballot{}, api.Ballot{}, 0},
		{api.Ballot{Count: 3, Node: 2, Life: 1}, api.Ballot{Count: 3, Node: 2, Life: 1}, 0},
		{api.Ballot{Life: 1}, api.Ballot{}, 1},
		{api.Ballot{Node: 1}, api.Ballot{Life: math.MaxUint32}, 1},
		{api.Ballot{Count: 1}, api.Ballot{Node: 255, Life: math.MaxUint32}, 1},
		{api.Ballot{Count: 5, Node: 1, Life: 9}, api.Ballot{Count: 5, Node: 2}, -1},
		{api.Ballot{Count: 5, Node: 1, Life: 9}, api.Ballot{Count: 5, Node: 1, Life: 10}, -1},
		{api.Ballot{Count: math.MaxUint64}, api.Ballot{}, 1},
		{api.Ballot{Count: 1 << 63}, api.Ballot{Count: 1<<63 - 1}, 1},
		{api.Ballot{Node: 128}, api.Ballot{Node: 127}, 1},
		{api.Ballot{Node: 255}, api.Ballot{}, 1},
		{api.Ballot{Life: 1 << 31}, api.Ballot{Life: 1<<31 - 1}, 1},
		{api.Ballot{Life: math.MaxUint32}, api.Ballot{}, 1},
	} {
		if got := ballot.Compare(c.a, c.b); got != c.want {
			t.Errorf("P3.1: Compare of %v and %v: %d, not %d", c.a, c.b, got, c.want)
		}
		if got := ballot.Compare(c.b, c.a); got != -c.want {
			t.Errorf("P3.1: Compare of %v and %v: %d, not %d", c.b, c.a, got, -c.want)
		}
	}
}

func TestBallotsStandInARow(t *testing.T) {
	l := grid()
	for i, a := range l {
		for k, b := range l {
			want := 0
			if i < k {
				want = -1
			} else if i > k {
				want = 1
			}
			if got := ballot.Compare(a, b); got != want {
				t.Errorf("P3.2: Compare of %v and %v: %d, not %d", a, b, got, want)
			}
		}
	}
}

func TestOneStandsAheadOrBothAreTheSame(t *testing.T) {
	rnd := rand.New(rand.NewSource(1))
	for range 200_000 {
		a, b := some(rnd), some(rnd)
		for part := range 3 {
			// Two that differ in few parts are met as often as any.
			if rnd.Intn(2) == 0 {
				switch part {
				case 0:
					b.Count = a.Count
				case 1:
					b.Node = a.Node
				case 2:
					b.Life = a.Life
				}
			}
		}
		got := ballot.Compare(a, b)
		if want := bytes.Compare(key(a), key(b)); got != want {
			t.Fatalf("P3.1: Compare of %v and %v: %d, not %d", a, b, got, want)
		}
		if back := ballot.Compare(b, a); back != -got {
			t.Fatalf("P3.2: Compare of %v and %v: %d, turned round %d", a, b, got, back)
		}
		if (got == 0) != (a == b) {
			t.Fatalf("P3.2: Compare of %v and %v: %d", a, b, got)
		}
	}
}

func TestBallotsAreSortedByCompare(t *testing.T) {
	want := grid()
	got := slices.Clone(want)
	rnd := rand.New(rand.NewSource(2))
	rnd.Shuffle(len(got), func(i, k int) { got[i], got[k] = got[k], got[i] })
	slices.SortFunc(got, ballot.Compare)
	if !slices.Equal(got, want) {
		t.Error("P3.2: ballots that are sorted by Compare don't stand in their row")
	}
}

func TestNextTable(t *testing.T) {
	for _, c := range []struct {
		seen uint64
		node uint8
		life uint32
		want api.Ballot
		e    api.Errno
	}{
		{0, 0, 0, api.Ballot{Count: 1}, api.OK},
		{7, 2, 9, api.Ballot{Count: 8, Node: 2, Life: 9}, api.OK},
		{1<<32 - 1, 63, 1, api.Ballot{Count: 1 << 32, Node: 63, Life: 1}, api.OK},
		{0, api.MaxNodes, 0, api.Ballot{Count: 1, Node: api.MaxNodes}, api.OK},
		{0, 255, math.MaxUint32, api.Ballot{Count: 1, Node: 255, Life: math.MaxUint32}, api.OK},
		{1<<63 - 2, 1, 1, api.Ballot{Count: 1<<63 - 1, Node: 1, Life: 1}, api.OK},
		{1<<63 - 1, 1, 1, api.Ballot{Count: 1 << 63, Node: 1, Life: 1}, api.OK},
		{1 << 63, 1, 1, api.Ballot{}, api.ErrFull},
		{1 << 63, 0, 0, api.Ballot{}, api.ErrFull},
		{1<<63 + 1, 1, 1, api.Ballot{}, api.ErrFull},
		{math.MaxUint64 - 1, 1, 1, api.Ballot{}, api.ErrFull},
		{math.MaxUint64, 255, math.MaxUint32, api.Ballot{}, api.ErrFull},
	} {
		for range 2 {
			got, e := ballot.Next(c.seen, c.node, c.life)
			if got != c.want || e != c.e {
				t.Errorf("P3.1: Next of %d, %d, %d: %v, %v, not %v, %v", c.seen, c.node, c.life, got, e, c.want, c.e)
			}
		}
	}
}

func TestNextStandsBehindAllThatWasSeen(t *testing.T) {
	rnd := rand.New(rand.NewSource(3))
	for range 50_000 {
		x := some(rnd)
		mine := some(rnd)
		next, e := ballot.Next(x.Count, mine.Node, mine.Life)
		if full := x.Count >= 1<<63; full != (e == api.ErrFull) || full != ballot.None(next) {
			t.Fatalf("P3.1: Next of %d: %v, %v", x.Count, next, e)
		}
		if e != api.OK {
			continue
		}
		if next != (api.Ballot{Count: x.Count + 1, Node: mine.Node, Life: mine.Life}) {
			t.Fatalf("P3.1: Next of %d, %d, %d: %v", x.Count, mine.Node, mine.Life, next)
		}
		for _, seen := range []api.Ballot{x, {Count: x.Count, Node: 255, Life: math.MaxUint32}, {Count: x.Count}, {}} {
			if ballot.Compare(next, seen) != 1 || ballot.Compare(seen, next) != -1 {
				t.Fatalf("P3.2: the next ballot %v doesn't stand behind %v", next, seen)
			}
		}
	}
}

func TestNone(t *testing.T) {
	if !ballot.None(api.Ballot{}) {
		t.Error("P3.1: the zero ballot isn't none")
	}
	for _, x := range []api.Ballot{
		{Count: 1}, {Node: 1}, {Life: 1}, {Count: 1 << 63}, {Count: 1 << 32}, {Node: 128}, {Node: 255}, {Life: 1 << 31}, {Life: 1 << 8},
		{Count: math.MaxUint64, Node: 255, Life: math.MaxUint32},
	} {
		if ballot.None(x) {
			t.Errorf("P3.1: %v is none", x)
		}
	}
	for _, x := range grid() {
		if got, want := ballot.None(x), ballot.Compare(x, api.Ballot{}) == 0; got != want {
			t.Errorf("P3.2: None of %v: %v", x, got)
		}
	}
}
