package round_test

import (
	"math"
	"slices"
	"testing"

	"scrutineer/api"
	"scrutineer/conf"
	"scrutineer/reg"
	"scrutineer/round"
)

// under is a ballot.
func under(count uint64, node uint8, life uint32) api.Ballot {
	return api.Ballot{Count: count, Node: node, Life: life}
}

// The ballots of the tables: one that is none, and five in a row.
var (
	b0 = api.Ballot{}
	b4 = under(4, 3, 1)
	b5 = under(5, 2, 1)
	b6 = under(5, 3, 0)
	b7 = under(5, 3, 1)
	b8 = under(8, 3, 1)
)

// edges are ballots at their edges.
func edges() []api.Ballot {
	var l []api.Ballot
	for _, count := range []uint64{0, 1, 5, 1<<63 - 1, 1 << 63, math.MaxUint64} {
		for _, node := range []uint8{0, 1, 63, 64, 128, 255} {
			for _, life := range []uint32{0, 1, math.MaxUint32} {
				l = append(l, under(count, node, life))
			}
		}
	}
	return l
}

// stable is a configuration with an even number.
func stable(c uint64, nodes ...uint8) api.Conf {
	return api.Conf{C: c, New: nodes}
}

// upTo are so many nodes, from 0 on.
func upTo(n int) []uint8 {
	var l []uint8
	for i := range n {
		l = append(l, uint8(i))
	}
	return l
}

// five are the nodes 0 to 4: of these 0, 1 and 3 keep the key 3.
func five() api.Conf {
	return stable(4, upTo(5)...)
}

// six is what comes behind five, between them and these with the node 5: the key 1 is kept by 0, 1 and 2 on Old's ring, and
// by 1, 2 and 5 on New's.
func six() api.Conf {
	return api.Conf{C: 5, Old: upTo(5), New: upTo(6)}
}

// confs are configurations that may be, of each size at which a quorum is another one.
func confs() []api.Conf {
	return []api.Conf{
		stable(0, 0),
		stable(2, 63),
		stable(0, 0, 1),
		stable(0, 0, 1, 2),
		stable(math.MaxUint64-1, 3, 9, 60, 63),
		five(),
		six(),
		{C: 7, Old: upTo(6), New: []uint8{0, 2, 3, 4, 5}},
		{C: 1, Old: []uint8{0}, New: []uint8{0, 1}},
		{C: 1, Old: []uint8{0, 1}, New: []uint8{1}},
		{C: 3, Old: []uint8{0, 1, 2}, New: []uint8{1, 2}},
		{C: math.MaxUint64, Old: []uint8{0, 1, 2}, New: []uint8{0, 1, 2, 63}},
		stable(1<<63, upTo(64)...),
	}
}

// noConfs are configurations that may not be.
func noConfs() []api.Conf {
	return []api.Conf{
		{},
		{C: 1},
		{C: 2, New: []uint8{1, 0}},
		{C: 2, New: []uint8{0, 0}},
		{C: 2, New: []uint8{0, 64}},
		{C: 2, Old: []uint8{0}, New: []uint8{0, 1}},
		{C: 1, New: []uint8{0}},
		{C: 1, Old: []uint8{0}, New: []uint8{0}},
		{C: 1, Old: []uint8{0}, New: []uint8{1}},
		{C: 1, Old: []uint8{0}, New: []uint8{0, 255}},
		{C: 1, Old: []uint8{0}, New: []uint8{0, 1, 2}},
		{C: 2, New: make([]uint8, 300)},
	}
}

// plain is a register with some of all that it may have, and no number of it 0.
func plain() api.Reg {
	return api.Reg{
		Kind: api.Live, Inc: 3, State: 2, Vars: []int64{7, -1, math.MinInt64, math.MaxInt64},
		Done:  []api.Done{{Client: 2, Seq: 9, Reply: api.Reply{Err: api.ErrGuard, Inc: 3, State: 1, Vars: []int64{5}}}},
		Out:   []api.Cell{{N: 4, Target: 15, Action: 31, Arg: -300}},
		Last:  6,
		Marks: []api.Mark{{Source: 1, Inc: 2, Cell: 300}},
	}
}

// tomb is a tombstone.
func tomb() api.Reg {
	return api.Reg{Kind: api.Tomb, Inc: 8, Done: []api.Done{{Client: 8, Seq: 1}}, Last: 5, Marks: []api.Mark{{Source: 15, Inc: 1, Cell: 1}}}
}

// live is a register of an incarnation, with nothing else.
func live(inc uint64) api.Reg {
	return api.Reg{Kind: api.Live, Inc: inc}
}

// largest is a register that has as much as it may of all.
func largest() api.Reg {
	full := func() []int64 { return slices.Repeat([]int64{math.MinInt64, math.MaxInt64}, 4) }
	r := api.Reg{Kind: api.Live, Inc: math.MaxUint64, State: 31, Vars: full(), Last: math.MaxUint64}
	for i := range uint8(8) {
		reply := api.Reply{Err: 99, Inc: math.MaxUint64, State: 31, Vars: full()}
		r.Done = append(r.Done, api.Done{Client: i + 1, Seq: math.MaxUint64, Reply: reply})
		r.Out = append(r.Out, api.Cell{N: math.MaxUint64 - 7 + uint64(i), Target: 15, Action: 31, Arg: math.MinInt64})
	}
	for i := range uint8(16) {
		r.Marks = append(r.Marks, api.Mark{Source: i, Inc: math.MaxUint64, Cell: math.MaxUint64})
	}
	return r
}

// regs are registers that may be.
func regs() []api.Reg {
	return []api.Reg{{}, live(1), {Kind: api.Tomb, Inc: 1}, plain(), tomb(), largest()}
}

// noRegs are registers that may not be.
func noRegs() []api.Reg {
	return []api.Reg{
		{Kind: 3, Inc: 1},
		{Kind: 255, Inc: 1},
		{Inc: 1},
		{Vars: []int64{0}},
		{Kind: api.Live},
		{Kind: api.Live, Inc: 1, State: 32},
		{Kind: api.Live, Inc: 1, State: -1},
		{Kind: api.Live, Inc: 1, Vars: make([]int64, 9)},
		{Kind: api.Live, Inc: 1, Out: []api.Cell{{N: 1}}},
		{Kind: api.Live, Inc: 1, Done: make([]api.Done, 9)},
		{Kind: api.Tomb, Inc: 1, Vars: []int64{1}},
	}
}

// same tells whether two rounds are the same, field by field.
func same(a, b api.Round) bool {
	return a.Key == b.Key && conf.Same(a.Conf, b.Conf) && a.B == b.B && a.All == b.All && a.Phase == b.Phase &&
		a.Got == b.Got && a.Acc == b.Acc && reg.Same(a.Reg, b.Reg) && a.Next == b.Next && a.Max == b.Max
}

// holdRound holds that a round is so.
func holdRound(t *testing.T, what string, got, want api.Round) {
	t.Helper()
	if !same(got, want) {
		t.Fatalf("%s: %v, not %v", what, got, want)
	}
}

// must holds that a call that makes a round, or goes on with one, is OK.
func must(t *testing.T, x api.Round, e api.Errno) api.Round {
	t.Helper()
	if e != api.OK {
		t.Fatalf("P17.1: %v, and %v", x, e)
	}
	return x
}

// asking is a round that asks.
func asking(t *testing.T, c api.Conf, key uint8, b api.Ballot, all bool) api.Round {
	t.Helper()
	x, e := round.Begin(c, key, b, all)
	return must(t, x, e)
}

// writing is a round that writes.
func writing(t *testing.T, c api.Conf, key uint8, b api.Ballot, all bool, r api.Reg, next api.Ballot) api.Round {
	t.Helper()
	x, e := round.Known(c, key, b, api.Reg{}, all)
	x, e = round.Write(must(t, x, e), r, next)
	return must(t, x, e)
}

// set has a bit for each of some nodes.
func set(nodes ...uint8) uint64 {
	var s uint64
	for _, n := range nodes {
		s |= 1 << n
	}
	return s
}

// yes is the answer to a round's message by a node that agrees; of a round that asks with what it accepted.
func yes(x api.Round, from uint8, acc api.Ballot, r api.Reg) api.Msg {
	m := api.Msg{Kind: api.MsgAccepted, From: from, To: x.B.Node, Key: x.Key, Conf: x.Conf.C, B: x.B, OK: true}
	if x.Phase == api.Asking {
		m.Kind, m.Acc, m.Reg = api.MsgPromise, acc, r
	}
	return m
}

// no is the answer to a round's message by a node that refuses.
func no(x api.Round, from uint8, most uint64) api.Msg {
	m := yes(x, from, b0, api.Reg{})
	m.OK, m.Max = false, most
	return m
}

// toldAll is a round behind answers.
func toldAll(x api.Round, l ...api.Msg) api.Round {
	for _, m := range l {
		x = round.Told(x, m)
	}
	return x
}
