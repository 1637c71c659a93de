package record_test

import (
	"math"
	"math/rand"
	"reflect"

	"scrutineer/api"
)

// under is a ballot.
func under(count uint64, node uint8, life uint32) api.Ballot {
	return api.Ballot{Count: count, Node: node, Life: life}
}

// highest is the ballot behind all others.
func highest() api.Ballot {
	return under(math.MaxUint64, 255, math.MaxUint32)
}

// plain is a register with one of all that it may have.
func plain() api.Reg {
	return api.Reg{
		Kind: api.Live, Inc: 3, State: 2, Vars: []int64{7, -1},
		Done:  []api.Done{{Client: 2, Seq: 9, Reply: api.Reply{Err: api.ErrGuard, Inc: 3, State: 1, Vars: []int64{5}}}},
		Out:   []api.Cell{{N: 4, Target: 15, Action: 31, Arg: -300}},
		Last:  6,
		Marks: []api.Mark{{Source: 1, Inc: 2, Cell: 300}},
	}
}

// largest is a register that has as much as it may of all.
func largest() api.Reg {
	full := func() []int64 { return []int64{math.MinInt64, 2, 3, 4, 5, 6, 7, math.MaxInt64} }
	r := api.Reg{Kind: api.Live, Inc: math.MaxUint64, State: 31, Vars: full(), Last: math.MaxUint64}
	for i := range uint8(8) {
		reply := api.Reply{Err: 99, Inc: math.MaxUint64, State: 31, Vars: full()}
		r.Done = append(r.Done, api.Done{Client: i + 1, Seq: math.MaxUint64, Reply: reply})
		r.Out = append(r.Out, api.Cell{N: math.MaxUint64 - 7 + uint64(i), Target: 15, Action: 31, Arg: math.MinInt64})
	}
	for i := range uint8(16) {
		r.Marks = append(r.Marks, api.Mark{Source: i, Inc: math.MaxUint64, Cell: math.MaxUint64})
	}
	return r
}

// regs are registers that may be; the first one is absent.
func regs() []api.Reg {
	return []api.Reg{
		{},
		{Kind: api.Live, Inc: 1},
		{Kind: api.Tomb, Inc: 3},
		{Kind: api.Tomb, Inc: 300, Done: []api.Done{{Client: 8, Seq: 1}}, Last: 5, Marks: []api.Mark{{Source: 15, Inc: 1, Cell: 1}}},
		plain(),
		largest(),
	}
}

// noRegs are registers that may not be.
func noRegs() []api.Reg {
	return []api.Reg{
		{Kind: 3, Inc: 1},
		{Inc: 1},
		{State: 1},
		{Vars: []int64{0}},
		{Done: []api.Done{{Client: 1, Seq: 1}}},
		{Out: []api.Cell{{}}},
		{Last: 1},
		{Marks: []api.Mark{{}}},
		{Kind: api.Live},
		{Kind: api.Live, Inc: 1, State: 32},
		{Kind: api.Live, Inc: 1, Vars: make([]int64, 9)},
		{Kind: api.Live, Inc: 1, Out: []api.Cell{{N: 1}}},
		{Kind: api.Tomb, Inc: 1, State: 1},
		{Kind: api.Tomb, Inc: 1, Vars: []int64{1}},
	}
}

// of are nodes.
func of(nodes ...uint8) []uint8 {
	return nodes
}

// firstNodes are so many nodes from 0 on.
func firstNodes(many int) []uint8 {
	l := make([]uint8, many)
	for i := range l {
		l[i] = uint8(i)
	}
	return l
}

// confs are configurations that may be.
func confs() []api.Conf {
	return []api.Conf{
		{New: of(0)},
		{C: 300, New: of(0, 7, 63)},
		{C: math.MaxUint64 - 1, New: firstNodes(64)},
		{C: 1, Old: of(3), New: of(3, 9)},
		{C: math.MaxUint64, Old: firstNodes(64), New: firstNodes(63)},
	}
}

// noConfs are configurations that may not be, the zero one among them.
func noConfs() []api.Conf {
	return []api.Conf{
		{},
		{C: 2},
		{Old: of(3)},
		{New: of(64)},
		{New: of(3, 3)},
		{New: of(4, 3)},
		{New: firstNodes(65)},
		{C: 2, Old: of(3), New: of(3)},
		{C: 1, New: of(3)},
		{C: 1, Old: of(3)},
		{C: 1, Old: of(3), New: of(3)},
		{C: 1, Old: of(3), New: of(9)},
	}
}

// slots are records of keys' slots that may be, those at the edges.
func slots() []api.Rec {
	b := under(7, 2, 9)
	l := []api.Rec{
		{Kind: api.RecSlot, Promise: under(0, 0, 1)},
		{Kind: api.RecSlot, Key: 15, Promise: under(0, 1, 0)},
		{Kind: api.RecSlot, Key: 7, Promise: highest()},
	}
	for i, r := range regs() {
		l = append(l,
			api.Rec{Kind: api.RecSlot, Key: uint8(i), Promise: b, Acc: b, Reg: r},
			api.Rec{Kind: api.RecSlot, Key: 15, Promise: b, Acc: under(7, 2, 8), Reg: r},
			api.Rec{Kind: api.RecSlot, Key: 14, Promise: b, Acc: under(7, 1, math.MaxUint32), Reg: r},
			api.Rec{Kind: api.RecSlot, Key: 13, Promise: b, Acc: under(6, 255, math.MaxUint32), Reg: r},
			api.Rec{Kind: api.RecSlot, Promise: highest(), Acc: highest(), Reg: r},
			api.Rec{Kind: api.RecSlot, Promise: highest(), Acc: under(0, 0, 1), Reg: r},
		)
	}
	return l
}

// some are records that may be, of each kind those at the edges.
func some() []api.Rec {
	l := append(slots(),
		api.Rec{Kind: api.RecGone},
		api.Rec{Kind: api.RecGone, Key: 3},
		api.Rec{Kind: api.RecGone, Key: 15},
		api.Rec{Kind: api.RecFence, Fence: 1},
		api.Rec{Kind: api.RecFence, Fence: 300},
		api.Rec{Kind: api.RecFence, Fence: math.MaxUint64},
		api.Rec{Kind: api.RecLife, Life: 1},
		api.Rec{Kind: api.RecLife, Life: 128},
		api.Rec{Kind: api.RecLife, Life: math.MaxUint32},
	)
	for _, c := range confs() {
		l = append(l, api.Rec{Kind: api.RecConf, Conf: c})
	}
	return l
}

// faults are records of which just one thing may not be.
func faults() []api.Rec {
	b := under(7, 2, 9)
	l := []api.Rec{
		{},
		{Kind: api.RecSlot},
		{Kind: api.RecSlot, Key: 16, Promise: b},
		{Kind: api.RecSlot, Key: 255, Promise: b, Acc: b, Reg: plain()},
		{Kind: api.RecSlot, Promise: b, Acc: under(8, 0, 0), Reg: plain()},
		{Kind: api.RecSlot, Promise: b, Acc: under(8, 2, 9), Reg: plain()},
		{Kind: api.RecSlot, Promise: b, Acc: under(7, 3, 0), Reg: plain()},
		{Kind: api.RecSlot, Promise: b, Acc: under(7, 2, 10), Reg: plain()},
		{Kind: api.RecSlot, Promise: b, Acc: highest()},
		{Kind: api.RecSlot, Acc: under(0, 0, 1)},
		{Kind: api.RecGone, Key: 16},
		{Kind: api.RecGone, Key: 255},
		{Kind: api.RecFence},
		{Kind: api.RecLife},
	}
	for _, r := range noRegs() {
		l = append(l,
			api.Rec{Kind: api.RecSlot, Promise: b, Acc: b, Reg: r},
			api.Rec{Kind: api.RecSlot, Promise: b, Reg: r},
		)
	}
	for _, r := range regs()[1:] {
		l = append(l, api.Rec{Kind: api.RecSlot, Promise: b, Reg: r})
	}
	for _, c := range noConfs() {
		l = append(l, api.Rec{Kind: api.RecConf, Conf: c})
	}
	for _, r := range some() {
		for _, kind := range []uint8{0, 6, 7, 128, 129, 255} {
			other := r
			other.Kind = kind
			l = append(l, other)
		}
		l = append(l, withMore(r)...)
	}
	return l
}

// withMore are all records that have more than one, in one field that its kind doesn't name.
func withMore(r api.Rec) []api.Rec {
	var l []api.Rec
	x := reflect.ValueOf(&r).Elem()
	for i := range x.NumField() {
		field := x.Field(i)
		if isNamed(r.Kind, x.Type().Field(i).Name) {
			continue
		}
		keep := reflect.ValueOf(field.Interface())
		for _, more := range others(field.Interface()) {
			field.Set(reflect.ValueOf(more))
			l = append(l, r)
		}
		field.Set(keep)
	}
	return l
}

// isNamed tells whether the chapter names a field at a kind.
func isNamed(kind uint8, field string) bool {
	switch field {
	case "Kind":
		return true
	case "Key":
		return kind == 1 || kind == 2
	case "Promise", "Acc", "Reg":
		return kind == 1
	case "Fence":
		return kind == 3
	case "Life":
		return kind == 4
	}
	return kind == 5
}

// others are values of a field's type that aren't zero: in each of their places just one more.
func others(field any) []any {
	var l []any
	switch field.(type) {
	case api.Reg:
		l = append(l, plain())
		for _, r := range append(regs()[1:4], noRegs()...) {
			l = append(l, r)
		}
	case api.Conf:
		for _, c := range append(confs(), noConfs()[1:]...) {
			l = append(l, c)
		}
	case api.Ballot:
		l = []any{under(1, 0, 0), under(0, 1, 0), under(0, 0, 1), highest()}
	case uint8:
		l = []any{uint8(1), uint8(15), uint8(128)}
	case uint32:
		l = []any{uint32(1), uint32(1 << 31)}
	case uint64:
		l = []any{uint64(1), uint64(1 << 32), uint64(1 << 63)}
	}
	return l
}

// random is a record that may be, of which each part is often at an edge.
func random(rnd *rand.Rand) api.Rec {
	number := func() uint64 { return rnd.Uint64()>>rnd.Intn(65) | uint64(rnd.Intn(2)) }
	r := api.Rec{Kind: uint8(1 + rnd.Intn(5))}
	switch r.Kind {
	case api.RecSlot:
		return randomSlot(rnd)
	case api.RecGone:
		r.Key = uint8(rnd.Intn(16))
	case api.RecFence:
		r.Fence = max(number(), 1)
	case api.RecLife:
		r.Life = max(uint32(number()), 1)
	case api.RecConf:
		r.Conf = confs()[rnd.Intn(len(confs()))]
		r.Conf.C = number()&^1 | r.Conf.C&1
	}
	return r
}

// randomSlot is a record of a key's slot that may be.
func randomSlot(rnd *rand.Rand) api.Rec {
	all := slots()
	r := all[rnd.Intn(len(all))]
	r.Key = uint8(rnd.Intn(16))
	if rnd.Intn(2) == 0 {
		r.Promise = under(1+rnd.Uint64()>>1, uint8(rnd.Intn(256)), rnd.Uint32())
	}
	if r.Acc != (api.Ballot{}) && rnd.Intn(2) == 0 {
		r.Acc = r.Promise
	}
	if behind(r.Acc, r.Promise) {
		r.Promise = r.Acc
	}
	return r
}

// behind tells whether one ballot stands behind another one.
func behind(a, b api.Ballot) bool {
	if a.Count != b.Count {
		return a.Count > b.Count
	}
	if a.Node != b.Node {
		return a.Node > b.Node
	}
	return a.Life > b.Life
}

// odd is a record of which mostly nothing may be.
func odd(rnd *rand.Rand) api.Rec {
	r := api.Rec{
		Reg: api.Reg{
			Vars:  make([]int64, rnd.Intn(10)),
			Done:  make([]api.Done, rnd.Intn(10)),
			Out:   make([]api.Cell, rnd.Intn(10)),
			Marks: make([]api.Mark, rnd.Intn(18)),
		},
		Conf: api.Conf{Old: make([]uint8, rnd.Intn(66)), New: make([]uint8, rnd.Intn(66))},
	}
	for i := range r.Reg.Done {
		r.Reg.Done[i].Reply.Vars = make([]int64, rnd.Intn(10))
	}
	edges := []int{0, 1, 2, 3, 4, 5, -1, 15, 16, 63, 64, 255, math.MaxInt, math.MinInt}
	for _, place := range places(reflect.ValueOf(&r).Elem(), false) {
		turn(place, edges[rnd.Intn(len(edges))])
	}
	return r
}

// oddState is what nobody could know.
func oddState(rnd *rand.Rand) api.State {
	var s api.State
	for key := range s.Slots {
		r := odd(rnd)
		s.Slots[key] = api.Slot{Has: rnd.Intn(2) == 0, Promise: r.Promise, Acc: r.Acc, Reg: r.Reg}
	}
	r := odd(rnd)
	s.Fence, s.Life, s.Conf = r.Fence, r.Life, r.Conf
	return s
}

// randomState is what somebody could know, so many of its parts being nothing.
func randomState(rnd *rand.Rand, few int) api.State {
	var s api.State
	for key := range s.Slots {
		if rnd.Intn(few) == 0 {
			r := randomSlot(rnd)
			s.Slots[key] = api.Slot{Has: true, Promise: r.Promise, Acc: r.Acc, Reg: r.Reg}
		}
	}
	if rnd.Intn(few) == 0 {
		s.Fence = 1 + rnd.Uint64()>>(1+rnd.Intn(63))
	}
	if rnd.Intn(few) == 0 {
		s.Life = 1 + rnd.Uint32()>>(1+rnd.Intn(31))
	}
	if rnd.Intn(few) == 0 {
		s.Conf = confs()[rnd.Intn(len(confs()))]
	}
	return s
}

// fullState is what somebody could know, with something in each of its parts.
func fullState() api.State {
	s := api.State{Fence: 300, Life: 9, Conf: api.Conf{C: 1, Old: of(3, 9, 11), New: of(3, 9)}}
	for key := range s.Slots {
		s.Slots[key] = api.Slot{Has: true, Promise: under(9, 1, uint32(key)), Acc: under(8, uint8(key), 1), Reg: plain()}
	}
	return s
}
