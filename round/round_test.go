package round_test

import (
	"fmt"
	"math"
	"slices"
	"testing"

	"scrutineer/api"
	"scrutineer/conf"
	"scrutineer/msg"
	"scrutineer/round"
)

func TestBegin(t *testing.T) {
	for _, c := range confs() {
		for key := range uint8(api.MaxKeys) {
			for _, b := range []api.Ballot{under(0, 0, 1), under(0, 1, 0), under(1, 0, 0), b5, under(math.MaxUint64, 63, math.MaxUint32)} {
				for _, all := range []bool{false, true} {
					x, e := round.Begin(c, key, b, all)
					holdRound(t, "P17.1: Begin", must(t, x, e), api.Round{Key: key, Conf: c, B: b, All: all, Phase: api.Asking})
				}
			}
		}
	}
}

func TestKnown(t *testing.T) {
	for _, c := range confs() {
		for i, r := range regs() {
			key := uint8(3 * i)
			for _, all := range []bool{false, true} {
				x, e := round.Known(c, key, b5, r, all)
				holdRound(t, "P17.1: Known", must(t, x, e), api.Round{Key: key, Conf: c, B: b5, All: all, Phase: api.Heard, Reg: r})
			}
		}
	}
}

// holdNone holds that no round is begun, nor one that has heard.
func holdNone(t *testing.T, c api.Conf, key uint8, b api.Ballot) {
	t.Helper()
	for _, all := range []bool{false, true} {
		x, e := round.Begin(c, key, b, all)
		if e != api.ErrArg || !same(x, api.Round{}) {
			t.Fatalf("P17.1: Begin(%v, %d, %v): %v, %v", c, key, b, x, e)
		}
		for _, r := range []api.Reg{{}, plain(), {Kind: 3}} {
			x, e = round.Known(c, key, b, r, all)
			if e != api.ErrArg || !same(x, api.Round{}) {
				t.Fatalf("P17.1: Known(%v, %d, %v, %v): %v, %v", c, key, b, r, x, e)
			}
		}
	}
}

func TestNoRoundOfWhatMayNotBe(t *testing.T) {
	for _, c := range noConfs() {
		holdNone(t, c, 3, b5)
		holdNone(t, c, 16, b0)
	}
	for key := uint8(api.MaxKeys); key != 0; key++ {
		holdNone(t, five(), key, b5)
	}
	holdNone(t, five(), 3, b0)
	for node := uint8(api.MaxNodes); node != 0; node++ {
		holdNone(t, five(), 3, under(5, node, 1))
		holdNone(t, five(), 3, under(0, node, 0))
	}
	for _, r := range noRegs() {
		x, e := round.Known(five(), 3, b5, r, true)
		if e != api.ErrArg || !same(x, api.Round{}) {
			t.Errorf("P17.1: Known of a register that may not be: %v, %v", x, e)
		}
	}
}

// heard are rounds that have heard: one that asked, and two that knew.
func heard(t *testing.T) []api.Round {
	t.Helper()
	x := asking(t, five(), 3, b7, false)
	x = toldAll(x, yes(x, 0, b5, tomb()), yes(x, 3, b4, plain()))
	y, e := round.Known(six(), 1, b7, largest(), true)
	z, f := round.Known(stable(0, 3), 0, under(math.MaxUint64-1, 3, 1), api.Reg{}, false)
	return []api.Round{x, must(t, y, e), must(t, z, f)}
}

func TestWrite(t *testing.T) {
	for _, x := range heard(t) {
		for _, r := range regs() {
			after := x.B
			after.Count++
			for _, next := range []api.Ballot{b0, after, under(math.MaxUint64, 3, 1)} {
				got, e := round.Write(x, r, next)
				// What was heard of stands there still; nobody has agreed to what is written.
				want := x
				want.Phase, want.Got, want.Reg, want.Next = api.Writing, 0, r, next
				holdRound(t, "P17.1: Write", must(t, got, e), want)
			}
		}
	}
}

func TestWriteOfWhatMayNotBe(t *testing.T) {
	hold := func(what string, x api.Round, r api.Reg, next api.Ballot, want api.Errno) {
		t.Helper()
		got, e := round.Write(x, r, next)
		if e != want {
			t.Fatalf("P17.1: Write of %v, %v: %v, not %v", x, next, e, want)
		}
		holdRound(t, "P17.1: Write of "+what, got, x)
	}
	for _, x := range heard(t) {
		for _, r := range noRegs() {
			hold("a register that may not be", x, r, b0, api.ErrArg)
			hold("a register that may not be", x, r, under(math.MaxUint64, 3, 1), api.ErrArg)
		}
		b := x.B
		for _, next := range []api.Ballot{
			b, under(b.Count-1, 3, 1), under(0, 3, 1), under(b.Count+1, 2, 1), under(b.Count+1, 4, 1), under(b.Count+1, 3, 0),
			under(b.Count+1, 3, 2), under(b.Count, 3, 2), under(b.Count, 4, 1), under(b.Count+1, 0, 0), under(0, 0, 1),
		} {
			hold("another Next", x, plain(), next, api.ErrArg)
			hold("neither", x, api.Reg{Inc: 1}, next, api.ErrArg)
		}
		// In any other phase that comes first.
		for phase := range 256 {
			x.Phase = uint8(phase)
			if x.Phase == api.Heard {
				continue
			}
			hold("a round in another phase", x, plain(), b0, api.ErrState)
			hold("a round in another phase", x, api.Reg{Inc: 1}, b0, api.ErrState)
			hold("a round in another phase", x, plain(), b, api.ErrState)
		}
	}
}

func TestWriteTwice(t *testing.T) {
	x := writing(t, five(), 3, b7, false, plain(), b8)
	for _, x := range []api.Round{x, toldAll(x, yes(x, 0, b0, api.Reg{})), toldAll(x, yes(x, 0, b0, api.Reg{}), yes(x, 1, b0, api.Reg{}))} {
		got, e := round.Write(x, tomb(), b0)
		if e != api.ErrState {
			t.Errorf("P17.1: Write twice: %v", e)
		}
		holdRound(t, "P17.1: Write twice", got, x)
	}
}

// holdAsks holds that a round sends these messages.
func holdAsks(t *testing.T, x api.Round, want []api.Msg) {
	t.Helper()
	if got := round.Ask(x); !slices.EqualFunc(got, want, msg.Same) {
		t.Fatalf("P17.1: Ask of %v: %v, not %v", x, got, want)
	}
}

// asked are the messages of a round to some nodes.
func asked(m api.Msg, to ...uint8) []api.Msg {
	var l []api.Msg
	for _, m.To = range to {
		l = append(l, m)
	}
	return l
}

func TestAsk(t *testing.T) {
	for _, all := range []bool{false, true} {
		m := api.Msg{Kind: api.MsgPrepare, From: 2, Key: 3, Conf: 4, B: b5}
		holdAsks(t, asking(t, five(), 3, b5, all), asked(m, 0, 1, 3))
		m.Key = 1
		holdAsks(t, asking(t, five(), 1, b5, all), asked(m, 0, 1, 2))
		m.Conf = 5
		holdAsks(t, asking(t, six(), 1, b5, all), asked(m, 0, 1, 2, 5))
		m.Conf = 0
		holdAsks(t, asking(t, stable(0, 63), 1, b5, all), asked(m, 63))
		for _, r := range regs() {
			for _, next := range []api.Ballot{b0, under(6, 2, 1)} {
				m := api.Msg{Kind: api.MsgAccept, From: 2, Key: 3, Conf: 4, B: b5, Reg: r, Next: next}
				holdAsks(t, writing(t, five(), 3, b5, all, r, next), asked(m, 0, 1, 3))
				m.Key, m.Conf = 1, 5
				holdAsks(t, writing(t, six(), 1, b5, all, r, next), asked(m, 0, 1, 2, 5))
			}
		}
	}
}

func TestAskIsOfAllKeepersRising(t *testing.T) {
	for _, c := range confs() {
		for key := range uint8(api.MaxKeys) {
			m := api.Msg{Kind: api.MsgPrepare, From: 3, Key: key, Conf: c.C, B: b7}
			holdAsks(t, asking(t, c, key, b7, false), asked(m, conf.Keepers(c, key)...))
			m = api.Msg{Kind: api.MsgAccept, From: 3, Key: key, Conf: c.C, B: b7, Reg: tomb(), Next: b8}
			holdAsks(t, writing(t, c, key, b7, false, tomb(), b8), asked(m, conf.Keepers(c, key)...))
		}
	}
}

func TestAskOfThoseWhoAgreedToo(t *testing.T) {
	x := asking(t, six(), 1, b5, true)
	for _, n := range []uint8{1, 0} {
		x = toldAll(x, yes(x, n, b4, plain()))
		holdAsks(t, x, asked(api.Msg{Kind: api.MsgPrepare, From: 2, Key: 1, Conf: 5, B: b5}, 0, 1, 2, 5))
	}
	x = writing(t, six(), 1, b5, true, tomb(), b0)
	for _, n := range []uint8{5, 2, 0} {
		x = toldAll(x, yes(x, n, b0, api.Reg{}))
		holdAsks(t, x, asked(api.Msg{Kind: api.MsgAccept, From: 2, Key: 1, Conf: 5, B: b5, Reg: tomb()}, 0, 1, 2, 5))
	}
}

func TestAskInOtherPhases(t *testing.T) {
	for _, x := range []api.Round{asking(t, five(), 3, b5, true), writing(t, six(), 1, b5, false, plain(), b0)} {
		for phase := range 256 {
			x.Phase = uint8(phase)
			if x.Phase != api.Asking && x.Phase != api.Writing {
				holdAsks(t, x, nil)
			}
		}
	}
	holdAsks(t, api.Round{}, nil)
	for _, x := range heard(t) {
		holdAsks(t, x, nil)
	}
	x := asking(t, five(), 3, b5, false)
	holdAsks(t, toldAll(x, no(x, 0, 9)), nil)
	x = writing(t, five(), 3, b5, false, plain(), b0)
	holdAsks(t, toldAll(x, yes(x, 0, b0, api.Reg{}), yes(x, 1, b0, api.Reg{})), nil)
}

// told is a row of a table: answers to a round, and how it is behind them.
type told struct {
	what  string
	l     []api.Msg
	phase uint8
	got   uint64
	acc   api.Ballot
	reg   api.Reg
	most  uint64
}

// hold holds that each row of a table is so.
func hold(t *testing.T, x api.Round, rows []told) {
	t.Helper()
	for _, w := range rows {
		want := x
		want.Phase, want.Got, want.Max = w.phase, w.got, w.most
		if x.Phase == api.Asking {
			want.Acc, want.Reg = w.acc, w.reg
		}
		holdRound(t, fmt.Sprintf("P17.1: %s: %v", w.what, w.l), toldAll(x, w.l...), want)
	}
}

func TestToldWhileItAsks(t *testing.T) {
	for _, all := range []bool{false, true} {
		x := asking(t, five(), 3, b7, all)
		p := func(from uint8, acc api.Ballot, r api.Reg) api.Msg { return yes(x, from, acc, r) }
		none := api.Reg{}
		hold(t, x, []told{
			{what: "nothing", phase: api.Asking},
			{what: "one", l: []api.Msg{p(3, b0, none)}, phase: api.Asking, got: set(3)},
			{what: "one twice", l: []api.Msg{p(0, b5, tomb()), p(0, b5, tomb())}, phase: api.Asking, got: set(0), acc: b5, reg: tomb()},
			{what: "two, nothing was accepted", l: []api.Msg{p(3, b0, none), p(1, b0, none)}, phase: api.Heard, got: set(1, 3)},
			{what: "the first one accepted something", l: []api.Msg{p(3, b4, plain()), p(0, b0, none)}, phase: api.Heard, got: set(0, 3), acc: b4, reg: plain()},
			{what: "the second one did", l: []api.Msg{p(3, b0, none), p(0, b4, plain())}, phase: api.Heard, got: set(0, 3), acc: b4, reg: plain()},
			{what: "both did, the first one higher", l: []api.Msg{p(3, b5, tomb()), p(0, b4, plain())}, phase: api.Heard, got: set(0, 3), acc: b5, reg: tomb()},
			{what: "both did, the second one higher", l: []api.Msg{p(3, b4, plain()), p(0, b5, tomb())}, phase: api.Heard, got: set(0, 3), acc: b5, reg: tomb()},
			{what: "of the same count, a higher node", l: []api.Msg{p(3, b5, plain()), p(0, b6, tomb())}, phase: api.Heard, got: set(0, 3), acc: b6, reg: tomb()},
			{what: "of the same count, a lower node", l: []api.Msg{p(3, b6, plain()), p(0, b5, tomb())}, phase: api.Heard, got: set(0, 3), acc: b6, reg: plain()},
			{what: "of the same count and node, a higher life", l: []api.Msg{p(3, b6, plain()), p(0, b7, tomb())}, phase: api.Heard, got: set(0, 3), acc: b7, reg: tomb()},
			{what: "the same ballot, the first one is kept", l: []api.Msg{p(3, b5, plain()), p(0, b5, tomb())}, phase: api.Heard, got: set(0, 3), acc: b5, reg: plain()},
			{what: "an Absent register, higher", l: []api.Msg{p(3, b4, plain()), p(0, b5, none)}, phase: api.Heard, got: set(0, 3), acc: b5},
			{what: "an Absent register, lower", l: []api.Msg{p(3, b4, none), p(0, b5, plain())}, phase: api.Heard, got: set(0, 3), acc: b5, reg: plain()},
			{what: "the count 0", l: []api.Msg{p(3, under(0, 0, 1), plain()), p(0, b0, none)}, phase: api.Heard, got: set(0, 3), acc: under(0, 0, 1), reg: plain()},
			{what: "the highest of all", l: []api.Msg{p(3, under(math.MaxUint64, 255, math.MaxUint32), largest()), p(0, b8, tomb())}, phase: api.Heard, got: set(0, 3), acc: under(math.MaxUint64, 255, math.MaxUint32), reg: largest()},
			{what: "one says more the second time", l: []api.Msg{p(3, b4, plain()), p(3, b5, tomb())}, phase: api.Asking, got: set(3), acc: b5, reg: tomb()},
			{what: "one says less the second time", l: []api.Msg{p(3, b5, tomb()), p(3, b4, plain())}, phase: api.Asking, got: set(3), acc: b5, reg: tomb()},
			{what: "a third one comes too late", l: []api.Msg{p(3, b4, plain()), p(0, b0, none), p(1, b5, tomb())}, phase: api.Heard, got: set(0, 3), acc: b4, reg: plain()},
			{what: "one refuses", l: []api.Msg{no(x, 1, 9)}, phase: api.Failed, most: 9},
			{what: "one refuses, with a Max of 0", l: []api.Msg{no(x, 1, 0)}, phase: api.Failed},
			{what: "one refuses, with the highest Max", l: []api.Msg{no(x, 1, math.MaxUint64)}, phase: api.Failed, most: math.MaxUint64},
			{what: "one refuses behind another one's promise", l: []api.Msg{p(3, b4, plain()), no(x, 1, 9)}, phase: api.Failed, got: set(3), acc: b4, reg: plain(), most: 9},
			{what: "one refuses behind its own promise", l: []api.Msg{p(3, b4, plain()), no(x, 3, 9)}, phase: api.Failed, got: set(3), acc: b4, reg: plain(), most: 9},
			{what: "one refuses too late", l: []api.Msg{p(3, b0, none), p(0, b0, none), no(x, 1, 9)}, phase: api.Heard, got: set(0, 3)},
			{what: "a promise behind a refusal", l: []api.Msg{no(x, 1, 9), p(3, b4, plain()), p(0, b0, none)}, phase: api.Failed, most: 9},
			{what: "two refuse", l: []api.Msg{no(x, 1, 9), no(x, 0, 10)}, phase: api.Failed, most: 9},
		})
	}
}

func TestToldWhileItWrites(t *testing.T) {
	none := api.Reg{}
	for _, next := range []api.Ballot{b0, b8} {
		x := writing(t, five(), 3, b7, false, plain(), next)
		a := func(from uint8) api.Msg { return yes(x, from, b0, none) }
		hold(t, x, []told{
			{what: "nothing", phase: api.Writing},
			{what: "one", l: []api.Msg{a(3)}, phase: api.Writing, got: set(3)},
			{what: "one twice", l: []api.Msg{a(3), a(3)}, phase: api.Writing, got: set(3)},
			{what: "two", l: []api.Msg{a(3), a(0)}, phase: api.Agreed, got: set(0, 3)},
			{what: "a third one comes too late", l: []api.Msg{a(3), a(0), a(1)}, phase: api.Agreed, got: set(0, 3)},
			{what: "one refuses", l: []api.Msg{no(x, 1, 9)}, phase: api.Failed, most: 9},
			{what: "one refuses, with a Max of 0", l: []api.Msg{no(x, 1, 0)}, phase: api.Failed},
			{what: "one refuses behind another one", l: []api.Msg{a(3), no(x, 1, 9)}, phase: api.Failed, got: set(3), most: 9},
			{what: "one refuses behind itself", l: []api.Msg{a(3), no(x, 3, 9)}, phase: api.Failed, got: set(3), most: 9},
			{what: "one refuses too late", l: []api.Msg{a(3), a(0), no(x, 1, 9)}, phase: api.Agreed, got: set(0, 3)},
			{what: "one behind a refusal", l: []api.Msg{no(x, 1, 9), a(0), a(3)}, phase: api.Failed, most: 9},
			{what: "two refuse", l: []api.Msg{no(x, 1, 9), no(x, 0, 10)}, phase: api.Failed, most: 9},
		})
		x = writing(t, five(), 3, b7, true, plain(), next)
		hold(t, x, []told{
			{what: "with all, two", l: []api.Msg{a(3), a(0)}, phase: api.Writing, got: set(0, 3)},
			{what: "with all, one again and again", l: []api.Msg{a(3), a(3), a(3)}, phase: api.Writing, got: set(3)},
			{what: "with all, all", l: []api.Msg{a(3), a(0), a(1)}, phase: api.Agreed, got: set(0, 1, 3)},
			{what: "with all, the last one refuses", l: []api.Msg{a(3), a(0), no(x, 1, 9)}, phase: api.Failed, got: set(0, 3), most: 9},
		})
	}
}

func TestQuorumsBetween(t *testing.T) {
	none := api.Reg{}
	for _, all := range []bool{false, true} {
		x := asking(t, six(), 1, b7, all)
		p := func(from uint8) api.Msg { return yes(x, from, b0, none) }
		// Two of 0, 1, 2 on Old's ring, and two of 1, 2, 5 on New's; to hear that is enough, also with all.
		hold(t, x, []told{
			{what: "on Old's ring alone", l: []api.Msg{p(0), p(1)}, phase: api.Asking, got: set(0, 1)},
			{what: "on New's ring alone", l: []api.Msg{p(5), p(1)}, phase: api.Asking, got: set(1, 5)},
			{what: "on neither", l: []api.Msg{p(0), p(5)}, phase: api.Asking, got: set(0, 5)},
			{what: "on both", l: []api.Msg{p(2), p(1)}, phase: api.Heard, got: set(1, 2)},
			{what: "on both, by three", l: []api.Msg{p(0), p(5), p(2)}, phase: api.Heard, got: set(0, 2, 5)},
		})
	}
	x := writing(t, six(), 1, b7, false, plain(), b8)
	a := func(from uint8) api.Msg { return yes(x, from, b0, none) }
	hold(t, x, []told{
		{what: "on Old's ring alone", l: []api.Msg{a(0), a(1)}, phase: api.Writing, got: set(0, 1)},
		{what: "on New's ring alone", l: []api.Msg{a(5), a(1)}, phase: api.Writing, got: set(1, 5)},
		{what: "on both", l: []api.Msg{a(2), a(1)}, phase: api.Agreed, got: set(1, 2)},
	})
	x = writing(t, six(), 1, b7, true, plain(), b8)
	hold(t, x, []told{
		{what: "with all, all on New's ring", l: []api.Msg{a(1), a(2), a(5)}, phase: api.Writing, got: set(1, 2, 5)},
		{what: "with all, all on Old's ring", l: []api.Msg{a(0), a(1), a(2)}, phase: api.Writing, got: set(0, 1, 2)},
		{what: "with all, all", l: []api.Msg{a(0), a(5), a(2), a(1)}, phase: api.Agreed, got: set(0, 1, 2, 5)},
	})
}

func TestOneNodeAlone(t *testing.T) {
	x := asking(t, stable(0, 0), 0, under(1, 0, 0), false)
	x = toldAll(x, yes(x, 0, b0, api.Reg{}))
	if x.Phase != api.Heard {
		t.Fatalf("P17.1: the chapter's example: %v", x)
	}
	y, e := round.Write(x, live(1), b0)
	y = toldAll(must(t, y, e), yes(y, 0, b0, api.Reg{}))
	if y.Phase != api.Agreed || y.Got != 1 {
		t.Errorf("P17.1: one node alone accepted: %v", y)
	}
}

// turned are messages each of which differs from one in one part.
func turned(m api.Msg) []api.Msg {
	var l []api.Msg
	for n := range 256 {
		i := uint8(n)
		for _, part := range []func(*api.Msg) *uint8{
			func(m *api.Msg) *uint8 { return &m.Kind },
			func(m *api.Msg) *uint8 { return &m.From },
			func(m *api.Msg) *uint8 { return &m.To },
			func(m *api.Msg) *uint8 { return &m.Key },
			func(m *api.Msg) *uint8 { return &m.B.Node },
		} {
			other := m
			if at := part(&other); *at != i {
				*at = i
				l = append(l, other)
			}
		}
	}
	for _, turn := range []func(*api.Msg){
		func(m *api.Msg) { m.B.Count++ },
		func(m *api.Msg) { m.B.Count-- },
		func(m *api.Msg) { m.B.Life++ },
		func(m *api.Msg) { m.B.Life-- },
		func(m *api.Msg) { m.B = b0 },
		func(m *api.Msg) { m.Next = under(m.B.Count+1, m.B.Node, m.B.Life) },
		func(m *api.Msg) { m.Reg = api.Reg{Kind: 3} },
		func(m *api.Msg) { m.Acc, m.Reg = b4, api.Reg{Kind: api.Live} },
		func(m *api.Msg) { m.Acc, m.Reg = b0, tomb() },
		func(m *api.Msg) { m.Reg = api.Reg{Inc: 1} },
	} {
		other := m
		turn(&other)
		l = append(l, other)
	}
	return l
}

func TestAnswersThatDoNotBelong(t *testing.T) {
	for _, x := range []api.Round{
		asking(t, five(), 3, b7, false),
		asking(t, six(), 1, b7, true),
		writing(t, five(), 3, b7, true, plain(), b8),
		writing(t, six(), 1, b7, false, api.Reg{}, b0),
	} {
		keepers := conf.Keepers(x.Conf, x.Key)
		good := yes(x, 1, b0, api.Reg{})
		// With a Max of 0 a refusal is, but for its Kind, a message that asks.
		l := slices.Concat(turned(good), turned(no(x, 1, 9)), turned(no(x, 1, 0)))
		for _, turn := range []func(*api.Msg){
			// Of one that is OK the configuration's number counts, and no Max may be there.
			func(m *api.Msg) { m.Conf++ },
			func(m *api.Msg) { m.Conf-- },
			func(m *api.Msg) { m.Conf = 0 },
			func(m *api.Msg) { m.Conf = math.MaxUint64 },
			func(m *api.Msg) { m.Max = 1 },
		} {
			m := good
			turn(&m)
			l = append(l, m)
		}
		for _, m := range l {
			isKeeper := slices.Contains(keepers, m.From)
			if isKeeper && m.From != 1 {
				// Another keeper's answer belongs, too.
				continue
			}
			holdRound(t, fmt.Sprintf("P17.1: %v doesn't belong", m), toldAll(x, m), x)
		}
		holdRound(t, "P17.1: a message of nothing", toldAll(x, api.Msg{}), x)
		if got := toldAll(x, good); same(got, x) {
			t.Fatalf("P17.1: %v belongs to %v", good, x)
		}
	}
}

func TestAcceptedTellsOfNothingThatWasAccepted(t *testing.T) {
	x := writing(t, five(), 3, b7, false, plain(), b8)
	m := yes(x, 0, b0, api.Reg{})
	m.Acc, m.Reg = b8, tomb()
	holdRound(t, "P17.1: a MsgAccepted with a register may not be", toldAll(x, m), x)
}

func TestRefusalsOfOtherConfigurations(t *testing.T) {
	for _, x := range []api.Round{asking(t, five(), 3, b7, false), writing(t, five(), 3, b7, true, plain(), b8)} {
		for _, c := range []uint64{0, 3, 4, 5, math.MaxUint64} {
			m := no(x, 3, 9)
			m.Conf = c
			want := x
			want.Phase, want.Max = api.Failed, 9
			holdRound(t, fmt.Sprintf("P17.1: a refusal of the configuration %d", c), toldAll(x, m), want)
		}
	}
}

func TestAnswersInOtherPhases(t *testing.T) {
	x, y := asking(t, five(), 3, b7, false), writing(t, five(), 3, b7, false, plain(), b8)
	l := []api.Msg{yes(x, 0, b5, tomb()), no(x, 1, 9), yes(y, 0, b0, api.Reg{}), no(y, 1, 9)}
	for phase := range 256 {
		for _, z := range []api.Round{x, y} {
			z.Phase = uint8(phase)
			for i, m := range l {
				if i < 2 && z.Phase == api.Asking || i >= 2 && z.Phase == api.Writing {
					continue
				}
				holdRound(t, fmt.Sprintf("P17.1: %v in the phase %d", m, phase), toldAll(z, m), z)
			}
		}
	}
}

func TestARoundFromEndToEnd(t *testing.T) {
	x := asking(t, five(), 3, b7, false)
	x = toldAll(x, yes(x, 3, b4, plain()), yes(x, 1, b5, tomb()))
	ask, promises := api.MsgPrepare, x.Got
	y, e := round.Write(x, live(9), b8)
	x = must(t, y, e)
	if x.Got == promises || round.Ask(x)[0].Kind == ask {
		t.Fatalf("P17.1: behind Write: %v", x)
	}
	// Who promised hasn't accepted yet.
	x = toldAll(x, yes(x, 0, b0, api.Reg{}))
	if x.Phase != api.Writing {
		t.Fatalf("P17.1: one accepted: %v", x)
	}
	x = toldAll(x, yes(x, 3, b0, api.Reg{}))
	want := api.Round{Key: 3, Conf: five(), B: b7, Phase: api.Agreed, Got: set(0, 3), Acc: b5, Reg: live(9), Next: b8}
	holdRound(t, "P17.1: agreed", x, want)
}
