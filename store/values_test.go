package store_test

import (
	"math"
	"math/rand"
	"slices"
	"testing"

	"scrutineer/api"
	"scrutineer/journal"
	"scrutineer/record"
	"scrutineer/sector"
)

// made is a new disk.
func made(t *testing.T, size, count int) *sector.Disk {
	t.Helper()
	d, e := sector.New(size, count)
	must(t, "New", e, api.OK)
	return d
}

// must holds that a call is answered so.
func must(t *testing.T, what string, got, want api.Errno) {
	t.Helper()
	if got != want {
		t.Fatalf("%s: %v, not %v", what, got, want)
	}
}

// bytesOf are the bytes of records that may be.
func bytesOf(l ...api.Rec) [][]byte {
	var out [][]byte
	for _, r := range l {
		b, e := record.Put(r)
		if e != api.OK {
			panic("a record that may not be")
		}
		out = append(out, b)
	}
	return out
}

// laid is a disk with a journal of these records, be they what they may.
func laid(t *testing.T, size, count int, l ...[]byte) *sector.Disk {
	t.Helper()
	d := made(t, size, count)
	j, _, e := journal.Open(d)
	must(t, "a journal's Open", e, api.OK)
	for _, b := range l {
		must(t, "a journal's Append", j.Append(b), api.OK)
	}
	return d
}

// under is a ballot.
func under(count uint64, node uint8, life uint32) api.Ballot {
	return api.Ballot{Count: count, Node: node, Life: life}
}

// promised is a record of a key of which nothing was accepted: with its frame it takes one sector.
func promised(key uint8, count uint64) api.Rec {
	return api.Rec{Kind: api.RecSlot, Key: key, Promise: under(count, 1, 0)}
}

// accepted is a record of a key of which a register was accepted.
func accepted(key uint8, count uint64, r api.Reg) api.Rec {
	return api.Rec{Kind: api.RecSlot, Key: key, Promise: under(count, 1, 2), Acc: under(count-1, 3, 4), Reg: r}
}

// gone is a record of a key that is had no more.
func gone(key uint8) api.Rec {
	return api.Rec{Kind: api.RecGone, Key: key}
}

// fence is a record of a fence.
func fence(n uint64) api.Rec {
	return api.Rec{Kind: api.RecFence, Fence: n}
}

// life is a record of a life.
func life(n uint32) api.Rec {
	return api.Rec{Kind: api.RecLife, Life: n}
}

// stable is a record of a configuration with an even number.
func stable(c uint64, nodes ...uint8) api.Rec {
	return api.Rec{Kind: api.RecConf, Conf: api.Conf{C: c, New: nodes}}
}

// between is a record of a configuration that is between.
func between() api.Rec {
	return api.Rec{Kind: api.RecConf, Conf: api.Conf{C: 7, Old: []uint8{3, 9}, New: []uint8{3, 9, 63}}}
}

// plain is a register with some of all that it may have, and no number of it 0: accepted, it takes two sectors of 64 bytes.
func plain() api.Reg {
	return api.Reg{
		Kind: api.Live, Inc: 3, State: 2, Vars: []int64{7, -1, math.MinInt64, math.MaxInt64},
		Done:  []api.Done{{Client: 2, Seq: 9, Reply: api.Reply{Err: api.ErrGuard, Inc: 3, State: 1, Vars: []int64{5}}}},
		Out:   []api.Cell{{N: 4, Target: 15, Action: 31, Arg: -300}},
		Last:  6,
		Marks: []api.Mark{{Source: 1, Inc: 2, Cell: 300}},
	}
}

// tomb is a tombstone.
func tomb() api.Reg {
	return api.Reg{Kind: api.Tomb, Inc: 8, Done: []api.Done{{Client: 8, Seq: 1}}, Last: 5, Marks: []api.Mark{{Source: 15, Inc: 1, Cell: 1}}}
}

// largest is a register whose bytes are the most that there can be.
func largest() api.Reg {
	full := func() []int64 { return slices.Repeat([]int64{math.MinInt64, math.MaxInt64}, 4) }
	r := api.Reg{Kind: api.Live, Inc: math.MaxUint64, State: 31, Vars: full(), Last: math.MaxUint64}
	for i := range uint8(8) {
		reply := api.Reply{Err: 99, Inc: math.MaxUint64, State: 31, Vars: full()}
		r.Done = append(r.Done, api.Done{Client: i + 1, Seq: math.MaxUint64, Reply: reply})
		r.Out = append(r.Out, api.Cell{N: math.MaxUint64 - 7 + uint64(i), Target: 15, Action: 31, Arg: math.MinInt64})
	}
	for i := range uint8(16) {
		r.Marks = append(r.Marks, api.Mark{Source: i, Inc: math.MaxUint64, Cell: math.MaxUint64})
	}
	return r
}

// largestSlot is a record whose bytes are the most that there can be.
func largestSlot(key uint8) api.Rec {
	b := under(math.MaxUint64, 255, math.MaxUint32)
	return api.Rec{Kind: api.RecSlot, Key: key, Promise: b, Acc: b, Reg: largest()}
}

// allNodes are all nodes that there may be.
func allNodes() []uint8 {
	l := make([]uint8, api.MaxNodes)
	for i := range l {
		l[i] = uint8(i)
	}
	return l
}

// some are records that may be, of each kind those at the edges.
func some() []api.Rec {
	return []api.Rec{
		promised(0, 1),
		{Kind: api.RecSlot, Key: 15, Promise: under(0, 0, 1)},
		accepted(3, 9, plain()),
		accepted(15, 9, tomb()),
		accepted(3, 2, api.Reg{}),
		largestSlot(14),
		gone(0), gone(3), gone(15),
		fence(1), fence(300), fence(299), fence(math.MaxUint64),
		life(1), life(128), life(math.MaxUint32), life(2),
		stable(0, 0), stable(300, 0, 7, 63), stable(math.MaxUint64-1, allNodes()...), between(),
	}
}

// faults are records that may not be.
func faults() []api.Rec {
	odd := plain()
	odd.State = api.MaxStates
	l := []api.Rec{
		{},
		{Kind: 6},
		{Kind: 255, Key: 3},
		{Kind: api.RecSlot},
		promised(16, 1),
		{Kind: api.RecSlot, Key: 3, Promise: under(7, 1, 0), Reg: plain()},
		{Kind: api.RecSlot, Key: 3, Promise: under(7, 1, 0), Acc: under(8, 1, 0), Reg: plain()},
		accepted(3, 9, odd),
		accepted(3, 9, api.Reg{Inc: 1}),
		gone(16), gone(255),
		fence(0),
		life(0),
		stable(0), stable(1, 3), stable(2, 64), stable(2, 4, 3),
	}
	for _, r := range some() {
		r.Kind = 6
		l = append(l, r)
	}
	for _, r := range []api.Rec{promised(3, 1), gone(3)} {
		r.Fence = 1
		l = append(l, r)
	}
	for _, r := range []api.Rec{fence(3), life(3), stable(2, 3)} {
		r.Key = 1
		l = append(l, r)
	}
	return l
}

// noRecords are bytes of no record.
func noRecords() [][]byte {
	slot := bytesOf(accepted(3, 9, plain()))[0]
	return [][]byte{
		nil,
		{0},
		{6, 3},
		{2},
		{2, 16},
		{2, 3, 0},
		{2, 128, 2},
		{2, 131, 0},
		{3, 0},
		{4, 0},
		{4, 128, 128, 128, 128, 16},
		{5, 2, 0, 0},
		[]byte("record"),
		slot[:len(slot)-1],
		append(slot[:len(slot):len(slot)], 0),
		append(make([]byte, api.MostRecord-1), 1),
	}
}

// random is a record that may be, of few keys and small numbers, so that many of them meet.
func random(rnd *rand.Rand) api.Rec {
	key, n := uint8(rnd.Intn(api.MaxKeys)), uint64(2+rnd.Intn(300))
	if rnd.Intn(3) > 0 {
		key %= 3
	}
	switch rnd.Intn(12) {
	case 0, 1:
		return fence(n)
	case 2:
		return life(uint32(n))
	case 3:
		return stable(2*n, 0, 7, 8+uint8(rnd.Intn(50)))
	case 4:
		return between()
	case 5, 6:
		return gone(key)
	case 7:
		return accepted(key, n, plain())
	case 8:
		return accepted(key, n, tomb())
	case 9:
		all := some()
		return all[rnd.Intn(len(all))]
	}
	return promised(key, n)
}
