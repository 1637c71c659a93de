package accept_test

import (
	"fmt"
	"math"
	"testing"

	"scrutineer/accept"
	"scrutineer/api"
	"scrutineer/msg"
)

// told is a row of a table: what was put, a deed, what is answered, and what is put by it.
type told struct {
	what string
	were []api.Rec
	d    deed
	m    api.Msg
	e    api.Errno
	put  []api.Rec
}

// hold holds that each row of a table is so.
func hold(t *testing.T, rows []told) {
	t.Helper()
	for _, x := range rows {
		what := fmt.Sprintf("P16.1: %s: %v", x.what, x.d)
		d, s := made(t, 200, x.were...)
		m, e := do(s, x.d)
		if !msg.Same(m, x.m) || e != x.e {
			t.Errorf("%s: %v, %v, not %v, %v", what, m, e, x.m, x.e)
		}
		holdPut(t, what, d, x.were, x.put...)
		holdKnows(t, what, opened(t, d), s.State())
	}
}

// The ballots of the tables: one that is none, and five in a row.
var (
	b0 = api.Ballot{}
	b4 = under(4, 3, 1)
	b5 = under(5, 2, 1)
	b6 = under(5, 3, 0)
	b7 = under(5, 3, 1)
	b8 = under(8, 1, 0)
)

func TestPrepare(t *testing.T) {
	ask := func(b api.Ballot) api.Msg { return prepare(1, 5, 0, b) }
	yes := func(b, acc api.Ballot, r api.Reg) api.Msg { return promise(1, 5, 0, b, acc, r) }
	no := func(b api.Ballot, most uint64) api.Msg { return refused(ask(b), 0, most) }
	none := api.Reg{}
	hasTomb := []api.Rec{slot(5, b6, b5, tomb())}
	hold(t, []told{
		{what: "a new acceptor", d: answer(ask(b5)), m: yes(b5, b0, none), put: []api.Rec{promised(5, b5)}},
		{what: "a count of 0", d: answer(ask(under(0, 2, 1))), m: no(under(0, 2, 1), 0)},
		{what: "a count at the fence", were: []api.Rec{fence(5)}, d: answer(ask(b7)), m: no(b7, 5)},
		{what: "a count below the fence", were: []api.Rec{fence(300)}, d: answer(ask(b7)), m: no(b7, 300)},
		{what: "a count above the fence", were: []api.Rec{fence(5)}, d: answer(ask(b8)), m: yes(b8, b0, none), put: []api.Rec{promised(5, b8)}},
		{what: "a fence doesn't matter of a key that it has", were: []api.Rec{promised(5, b5), fence(9)}, d: answer(ask(b6)), m: yes(b6, b0, none), put: []api.Rec{promised(5, b6)}},
		{what: "another key's slot doesn't matter", were: []api.Rec{promised(4, b8), promised(6, b8)}, d: answer(ask(b5)), m: yes(b5, b0, none), put: []api.Rec{promised(5, b5)}},
		{what: "the very promise", were: []api.Rec{promised(5, b6)}, d: answer(ask(b6)), m: yes(b6, b0, none), put: []api.Rec{promised(5, b6)}},
		{what: "a higher life", were: []api.Rec{promised(5, b6)}, d: answer(ask(b7)), m: yes(b7, b0, none), put: []api.Rec{promised(5, b7)}},
		{what: "a lower life", were: []api.Rec{promised(5, b7)}, d: answer(ask(b6)), m: no(b6, 5)},
		{what: "a lower node", were: []api.Rec{promised(5, b6)}, d: answer(ask(b5)), m: no(b5, 5)},
		{what: "a lower count", were: []api.Rec{promised(5, b8)}, d: answer(ask(b7)), m: no(b7, 8)},
		{what: "a register, and the very promise", were: hasTomb, d: answer(ask(b6)), m: yes(b6, b5, tomb()), put: []api.Rec{slot(5, b6, b5, tomb())}},
		{what: "a register, and a higher one", were: hasTomb, d: answer(ask(b8)), m: yes(b8, b5, tomb()), put: []api.Rec{slot(5, b8, b5, tomb())}},
		{what: "what is accepted", were: hasTomb, d: answer(ask(b5)), m: no(b5, 5)},
		{what: "what is accepted, and is promised", were: []api.Rec{slot(5, b6, b6, tomb())}, d: answer(ask(b6)), m: no(b6, 5)},
		{what: "behind what is accepted and promised", were: []api.Rec{slot(5, b6, b6, tomb())}, d: answer(ask(b7)), m: yes(b7, b6, tomb()), put: []api.Rec{slot(5, b7, b6, tomb())}},
		{what: "ahead of what is accepted", were: []api.Rec{slot(5, b8, b6, tomb())}, d: answer(ask(b4)), m: no(b4, 8)},
		{what: "an Absent register, accepted", were: []api.Rec{slot(5, b6, b6, none)}, d: answer(ask(b8)), m: yes(b8, b6, none), put: []api.Rec{slot(5, b8, b6, none)}},
	})
}

func TestAccept(t *testing.T) {
	ask := func(b, next api.Ballot) api.Msg { return write(1, 5, 0, b, tomb(), next) }
	yes := func(b api.Ballot) api.Msg { return accepted(1, 5, 0, b) }
	no := func(b api.Ballot, most uint64) api.Msg { return refused(ask(b, b0), 0, most) }
	after := under(6, 2, 1) // What b5's node may ask for along.
	hold(t, []told{
		{what: "a new acceptor", d: answer(ask(b5, b0)), m: yes(b5), put: []api.Rec{slot(5, b5, b5, tomb())}},
		{what: "a new acceptor, and Next", d: answer(ask(b5, after)), m: yes(b5), put: []api.Rec{slot(5, after, b5, tomb())}},
		{what: "an Absent register", d: answer(write(1, 5, 0, b5, api.Reg{}, b0)), m: yes(b5), put: []api.Rec{slot(5, b5, b5, api.Reg{})}},
		{what: "a live one", d: answer(write(1, 5, 0, b5, plain(), after)), m: yes(b5), put: []api.Rec{slot(5, after, b5, plain())}},
		{what: "a count of 0", d: answer(ask(under(0, 2, 1), b0)), m: no(under(0, 2, 1), 0)},
		{what: "a count at the fence", were: []api.Rec{fence(5)}, d: answer(ask(b7, b0)), m: no(b7, 5)},
		{what: "a count at the fence, whose Next is above it", were: []api.Rec{fence(5)}, d: answer(ask(b5, after)), m: no(b5, 5)},
		{what: "a count above the fence", were: []api.Rec{fence(4)}, d: answer(ask(b5, b0)), m: yes(b5), put: []api.Rec{slot(5, b5, b5, tomb())}},
		{what: "the promise", were: []api.Rec{promised(5, b5)}, d: answer(ask(b5, b0)), m: yes(b5), put: []api.Rec{slot(5, b5, b5, tomb())}},
		{what: "the promise, with a fence above", were: []api.Rec{promised(5, b5), fence(9)}, d: answer(ask(b5, after)), m: yes(b5), put: []api.Rec{slot(5, after, b5, tomb())}},
		{what: "behind the promise", were: []api.Rec{promised(5, b5)}, d: answer(ask(b6, b0)), m: yes(b6), put: []api.Rec{slot(5, b6, b6, tomb())}},
		{what: "ahead of the promise", were: []api.Rec{promised(5, b6)}, d: answer(ask(b5, b0)), m: no(b5, 5)},
		{what: "ahead of the promise, with a Next behind it", were: []api.Rec{promised(5, b6)}, d: answer(ask(b5, after)), m: no(b5, 5)},
		{what: "over another one", were: []api.Rec{slot(5, b5, b4, plain())}, d: answer(ask(b5, b0)), m: yes(b5), put: []api.Rec{slot(5, b5, b5, tomb())}},
		{what: "between what is accepted and promised", were: []api.Rec{slot(5, b8, b4, plain())}, d: answer(ask(b5, b0)), m: no(b5, 8)},
		{what: "what is accepted", were: []api.Rec{slot(5, b5, b5, tomb())}, d: answer(ask(b5, b0)), m: yes(b5)},
		{what: "what is accepted, with a Next", were: []api.Rec{slot(5, b5, b5, tomb())}, d: answer(ask(b5, after)), m: yes(b5)},
		{what: "what is accepted, with another register", were: []api.Rec{slot(5, b5, b5, plain())}, d: answer(ask(b5, b0)), m: yes(b5)},
		{what: "what is accepted, behind a higher promise", were: []api.Rec{slot(5, b8, b5, tomb())}, d: answer(ask(b5, after)), m: yes(b5)},
		{what: "ahead of what is accepted", were: []api.Rec{slot(5, b5, b5, tomb())}, d: answer(ask(b4, b0)), m: no(b4, 5)},
		{what: "of the same key, node and count, a lower life", were: []api.Rec{slot(5, b7, b7, tomb())}, d: answer(ask(b6, b0)), m: no(b6, 5)},
	})
}

func TestOtherConfigurations(t *testing.T) {
	c := agreed(stable(6, 1, 2))
	has := slot(5, b5, b5, tomb())
	p := func(n uint64, b api.Ballot) api.Msg { return prepare(1, 5, n, b) }
	w := func(n uint64, b api.Ballot) api.Msg { return write(1, 5, n, b, tomb(), b0) }
	hold(t, []told{
		{what: "the chapter's example: a new acceptor", d: answer(p(2, b5)), m: refused(p(2, b5), 0, 0)},
		{what: "a new acceptor", d: answer(w(2, b5)), m: refused(w(2, b5), 0, 0)},
		{what: "its own", were: []api.Rec{c}, d: answer(p(6, b5)), m: promise(1, 5, 6, b5, b0, api.Reg{}), put: []api.Rec{promised(5, b5)}},
		{what: "its own", were: []api.Rec{c}, d: answer(w(6, b5)), m: accepted(1, 5, 6, b5), put: []api.Rec{slot(5, b5, b5, tomb())}},
		{what: "a lower one", were: []api.Rec{c}, d: answer(p(5, b5)), m: refused(p(5, b5), 6, 0)},
		{what: "a higher one", were: []api.Rec{c}, d: answer(w(7, b5)), m: refused(w(7, b5), 6, 0)},
		{what: "a much higher one", were: []api.Rec{c}, d: answer(w(math.MaxUint64, b5)), m: refused(w(7, b5), 6, 0)},
		{what: "one that is none", were: []api.Rec{c}, d: answer(p(0, b5)), m: refused(p(0, b5), 6, 0)},
		{what: "no count is told of another one's", were: []api.Rec{c, has, fence(9)}, d: answer(p(7, b4)), m: refused(p(7, b4), 6, 0)},
		{what: "nor the fence", were: []api.Rec{c, fence(9)}, d: answer(w(7, b4)), m: refused(w(7, b4), 6, 0)},
		{what: "what is accepted, too", were: []api.Rec{c, has}, d: answer(w(7, b5)), m: refused(w(7, b5), 6, 0)},
		{what: "what is accepted, of its own", were: []api.Rec{c, has}, d: answer(w(6, b5)), m: accepted(1, 5, 6, b5)},
		{what: "a refusal tells its own number", were: []api.Rec{c, has}, d: answer(p(6, b4)), m: refused(p(6, b4), 6, 5)},
		// No node of it, nor a keeper of the key: nobody asks for that.
		{what: "of a node that is none of it", were: []api.Rec{agreed(stable(6, 3))}, d: answer(p(6, b5)), m: promise(1, 5, 6, b5, b0, api.Reg{}), put: []api.Rec{promised(5, b5)}},
	})
}

func TestAnswerAtTheEdges(t *testing.T) {
	top := under(math.MaxUint64, 255, math.MaxUint32)
	low := under(math.MaxUint64, 255, math.MaxUint32-1)
	own := agreed(stable(math.MaxUint64-1, 63))
	self := api.Msg{Kind: api.MsgPrepare, From: 63, To: 63, Key: 15, Conf: math.MaxUint64 - 1, B: top}
	selfYes := api.Msg{Kind: api.MsgPromise, From: 63, To: 63, Key: 15, Conf: math.MaxUint64 - 1, B: top, OK: true}
	hold(t, []told{
		{what: "the highest of all", were: []api.Rec{own}, d: answer(self), m: selfYes, put: []api.Rec{promised(15, top)}},
		{what: "the highest of all, behind a fence", were: []api.Rec{fence(math.MaxUint64 - 1)}, d: answer(prepare(0, 0, 0, top)), m: promise(0, 0, 0, top, b0, api.Reg{}), put: []api.Rec{promised(0, top)}},
		{what: "the highest fence", were: []api.Rec{fence(math.MaxUint64)}, d: answer(prepare(0, 0, 0, top)), m: refused(prepare(0, 0, 0, top), 0, math.MaxUint64)},
		{what: "ahead of the highest of all", were: []api.Rec{promised(0, top)}, d: answer(prepare(0, 0, 0, low)), m: refused(prepare(0, 0, 0, low), 0, math.MaxUint64)},
		{what: "behind it", were: []api.Rec{promised(0, low)}, d: answer(write(0, 0, 0, top, largest(), b0)), m: accepted(0, 0, 0, top), put: []api.Rec{slot(0, top, top, largest())}},
		{what: "the largest register", were: []api.Rec{slot(0, low, low, largest())}, d: answer(prepare(0, 0, 0, top)), m: promise(0, 0, 0, top, low, largest()), put: []api.Rec{slot(0, top, low, largest())}},
		{what: "a lowest ballot", were: []api.Rec{promised(0, under(0, 0, 1))}, d: answer(prepare(0, 0, 0, under(0, 0, 1))), m: promise(0, 0, 0, under(0, 0, 1), b0, api.Reg{}), put: []api.Rec{promised(0, under(0, 0, 1))}},
		{what: "another one of the count 0", were: []api.Rec{promised(0, under(0, 0, 1))}, d: answer(write(0, 0, 0, under(0, 1, 0), tomb(), under(1, 1, 0))), m: accepted(0, 0, 0, under(0, 1, 0)), put: []api.Rec{slot(0, under(1, 1, 0), under(0, 1, 0), tomb())}},
	})
}

func TestAnswerOfWhatMayNotBe(t *testing.T) {
	p, w := prepare(1, 5, 0, b5), write(1, 5, 0, b5, tomb(), b0)
	odd := func(m api.Msg, change func(m *api.Msg)) deed {
		change(&m)
		return deed{name: "Answer", node: 1, m: m}
	}
	rows := []deed{
		{name: "Answer", node: 1},
		{name: "Answer", node: 2, m: p},
		{name: "Answer", node: 9, m: p},
		{name: "Answer", node: 65, m: w},
		{name: "Answer", node: 129, m: w},
		odd(promise(1, 5, 0, b5, b0, api.Reg{}), func(m *api.Msg) { m.From, m.To = 9, 1 }),
		odd(promise(1, 5, 0, b8, b5, tomb()), func(m *api.Msg) { m.From, m.To = 9, 1 }),
		odd(accepted(1, 5, 0, b5), func(m *api.Msg) { m.From, m.To = 9, 1 }),
		odd(refused(w, 0, 7), func(m *api.Msg) { m.From, m.To = 9, 1 }),
		odd(p, func(m *api.Msg) { m.Kind = 0 }),
		odd(p, func(m *api.Msg) { m.Kind = 5 }),
		odd(p, func(m *api.Msg) { m.Kind = 255 }),
		odd(p, func(m *api.Msg) { m.From = 64 }),
		odd(p, func(m *api.Msg) { m.Key = 16 }),
		odd(p, func(m *api.Msg) { m.B = b0 }),
		odd(p, func(m *api.Msg) { m.OK = true }),
		odd(p, func(m *api.Msg) { m.Acc = b4 }),
		odd(p, func(m *api.Msg) { m.Next = b8 }),
		odd(p, func(m *api.Msg) { m.Max = 1 }),
		odd(p, func(m *api.Msg) { m.Reg = tomb() }),
		odd(w, func(m *api.Msg) { m.Acc = b4 }),
		odd(w, func(m *api.Msg) { m.Next = b8 }),
		odd(w, func(m *api.Msg) { m.Next = b5 }),
		odd(w, func(m *api.Msg) { m.Max = 1 }),
		odd(w, func(m *api.Msg) { m.Reg.Kind = 3 }),
	}
	for _, were := range [][]api.Rec{nil, {slot(5, b5, b5, tomb()), fence(9)}, {agreed(five())}} {
		var l []told
		for _, x := range rows {
			l = append(l, told{what: "what may not be", were: were, d: x, e: api.ErrArg})
		}
		// One that may be, to a node that there can't be: it isn't to that.
		l = append(l, told{what: "to nobody", were: were, d: odd(p, func(m *api.Msg) { m.To = 64 }), e: api.ErrArg})
		l = append(l, told{what: "to nobody", were: were, d: deed{name: "Answer", node: 64, m: prepare(64, 5, 0, b5)}, e: api.ErrArg})
		hold(t, l)
	}
}

func TestErase(t *testing.T) {
	has := func(promise, acc api.Ballot) []api.Rec { return []api.Rec{slot(5, promise, acc, tomb())} }
	with := func(l []api.Rec, n uint64) []api.Rec { return append(l, fence(n)) }
	hold(t, []told{
		{what: "a new acceptor", d: erase(5, b5)},
		{what: "a key that it hasn't", were: []api.Rec{slot(4, b5, b5, tomb()), fence(3)}, d: erase(5, b5)},
		{what: "a key that it has no more", were: append(has(b5, b5), gone(5)), d: erase(5, b5)},
		{what: "no ballot, of a key that it hasn't", d: erase(15, b0)},
		{what: "what is accepted, and promised", were: has(b5, b5), d: erase(5, b5), put: []api.Rec{fence(5), gone(5)}},
		{what: "a higher promise", were: has(b8, b5), d: erase(5, b5), put: []api.Rec{fence(8), gone(5)}},
		{what: "a lower fence", were: with(has(b8, b5), 7), d: erase(5, b5), put: []api.Rec{fence(8), gone(5)}},
		{what: "the same fence", were: with(has(b8, b5), 8), d: erase(5, b5), put: []api.Rec{gone(5)}},
		{what: "a higher fence", were: with(has(b8, b5), 9), d: erase(5, b5), put: []api.Rec{gone(5)}},
		{what: "a count of 0", were: has(under(0, 1, 0), under(0, 0, 1)), d: erase(5, under(0, 0, 1)), put: []api.Rec{gone(5)}},
		{what: "the highest count", were: has(under(math.MaxUint64, 1, 0), b5), d: erase(5, b5), put: []api.Rec{fence(math.MaxUint64), gone(5)}},
		{what: "an Absent register", were: []api.Rec{slot(0, b8, b5, api.Reg{})}, d: erase(0, b5), put: []api.Rec{fence(8), gone(0)}},
		{what: "the other keys stay", were: []api.Rec{slot(14, b5, b5, tomb()), slot(15, b5, b5, tomb())}, d: erase(15, b5), put: []api.Rec{fence(5), gone(15)}},
		{what: "a live one", were: []api.Rec{slot(5, b5, b5, plain())}, d: erase(5, b5), e: api.ErrState},
		{what: "another count", were: has(b5, b5), d: erase(5, b4), e: api.ErrState},
		{what: "another life", were: has(b7, b7), d: erase(5, b6), e: api.ErrState},
		{what: "another node", were: has(b6, b6), d: erase(5, under(5, 4, 0)), e: api.ErrState},
		{what: "the promise", were: has(b8, b5), d: erase(5, b8), e: api.ErrState},
		{what: "no ballot", were: has(b8, b5), d: erase(5, b0), e: api.ErrState},
		{what: "nothing accepted yet", were: []api.Rec{promised(5, b5)}, d: erase(5, b5), e: api.ErrState},
		// What it accepted is none, and that is the ballot: the chapter's words say no more.
		{what: "nothing accepted yet, at no ballot", were: []api.Rec{promised(5, b5)}, d: erase(5, b0), put: []api.Rec{fence(5), gone(5)}},
		{what: "no key", were: has(b5, b5), d: erase(16, b5), e: api.ErrArg},
		{what: "no key", were: has(b5, b5), d: erase(21, b5), e: api.ErrArg},
		{what: "no key", d: erase(255, b5), e: api.ErrArg},
		{what: "another configuration doesn't matter", were: append(has(b5, b5), agreed(stable(6, 3))), d: erase(5, b5), put: []api.Rec{fence(5), gone(5)}},
	})
}

func TestAdoptTheFirst(t *testing.T) {
	has := []api.Rec{slot(3, b5, b4, plain()), promised(1, b8), fence(6)}
	hold(t, []told{
		{what: "a new acceptor", d: adopt(2, five(), 0), put: []api.Rec{agreed(five())}},
		{what: "with a fence", d: adopt(2, five(), 1), put: []api.Rec{fence(1), agreed(five())}},
		{what: "one between", d: adopt(2, six(), 0), put: []api.Rec{agreed(six())}},
		{what: "the lowest number", d: adopt(0, stable(0, 0), 0), put: []api.Rec{agreed(stable(0, 0))}},
		{what: "the highest number", d: adopt(63, stable(math.MaxUint64-1, 63), math.MaxUint64), put: []api.Rec{fence(math.MaxUint64), agreed(stable(math.MaxUint64-1, 63))}},
		{what: "a node that is none of it", d: adopt(9, five(), 0), put: []api.Rec{agreed(five())}},
		{what: "a node that there can't be", d: adopt(255, five(), 0), put: []api.Rec{agreed(five())}},
		// Without one of its own it drops no keys.
		{what: "with keys", were: has, d: adopt(2, six(), 9), put: []api.Rec{fence(9), agreed(six())}},
		{what: "a fence that is lower", were: has, d: adopt(9, five(), 5), put: []api.Rec{agreed(five())}},
		{what: "a fence that is the same", were: has, d: adopt(9, five(), 6), put: []api.Rec{agreed(five())}},
		{what: "a fence that is higher", were: has, d: adopt(9, five(), 7), put: []api.Rec{fence(7), agreed(five())}},
		{what: "what may not be", d: adopt(2, api.Conf{}, 9), e: api.ErrArg},
		{what: "what may not be", d: adopt(2, api.Conf{C: 5, New: []uint8{2}}, 9), e: api.ErrArg},
		{what: "what may not be", were: has, d: adopt(2, stable(4, 2, 1), 9), e: api.ErrArg},
		{what: "what may not be", d: adopt(2, stable(4, 2, 64), 9), e: api.ErrArg},
		{what: "what may not be", d: adopt(2, stable(4), 9), e: api.ErrArg},
	})
}

func TestAdoptOneMore(t *testing.T) {
	own := agreed(five())
	fewer := api.Conf{C: 5, Old: []uint8{0, 1, 2, 3, 4}, New: []uint8{0, 1, 2, 4}}
	wrong := func(c uint64, old, new []uint8) deed { return adopt(2, api.Conf{C: c, Old: old, New: new}, 9) }
	old, more := six().Old, six().New
	high := agreed(stable(1<<63, 1, 2))
	topmost := agreed(stable(1<<63-2, 1, 2))
	hold(t, []told{
		{what: "its own", were: []api.Rec{own}, d: adopt(2, five(), 0)},
		{what: "its own, with a higher fence", were: []api.Rec{own, promised(3, b5)}, d: adopt(2, five(), 9)},
		{what: "its own, between, with keys", were: []api.Rec{agreed(six()), promised(3, b5)}, d: adopt(2, six(), 9)},
		{what: "its own number, other nodes", were: []api.Rec{own}, d: adopt(2, stable(4, 0, 1, 2, 3), 9), e: api.ErrArg},
		{what: "its own number, other old nodes", were: []api.Rec{agreed(six())}, d: wrong(5, []uint8{0, 1, 2, 3, 5}, more), e: api.ErrArg},
		{what: "a node more", were: []api.Rec{own}, d: adopt(2, six(), 0), put: []api.Rec{agreed(six())}},
		{what: "a node fewer", were: []api.Rec{own}, d: adopt(2, fewer, 3), put: []api.Rec{fence(3), agreed(fewer)}},
		{what: "behind one between", were: []api.Rec{agreed(six())}, d: adopt(2, stable(6, more...), 0), put: []api.Rec{agreed(stable(6, more...))}},
		{what: "behind one between, other nodes", were: []api.Rec{agreed(six())}, d: adopt(2, stable(6, old...), 9), e: api.ErrArg},
		{what: "a step that is left out", were: []api.Rec{own}, d: adopt(2, stable(6, more...), 9), e: api.ErrArg},
		{what: "the same nodes", were: []api.Rec{own}, d: adopt(2, stable(6, old...), 9), e: api.ErrArg},
		{what: "back again", were: []api.Rec{agreed(six())}, d: adopt(2, five(), 9), e: api.ErrArg},
		{what: "three numbers more", were: []api.Rec{own}, d: wrong(7, old, more), e: api.ErrArg},
		{what: "a lower number", were: []api.Rec{own}, d: wrong(3, old, more), e: api.ErrArg},
		{what: "from other nodes", were: []api.Rec{own}, d: wrong(5, old[:4], old), e: api.ErrArg},
		{what: "what may not be", were: []api.Rec{own}, d: wrong(5, old, old), e: api.ErrArg},
		{what: "what may not be", were: []api.Rec{own}, d: wrong(4, old, more), e: api.ErrArg},
		{what: "the highest that has a step", were: []api.Rec{topmost}, d: wrong(1<<63-1, []uint8{1, 2}, []uint8{2}), put: []api.Rec{fence(9), agreed(api.Conf{C: 1<<63 - 1, Old: []uint8{1, 2}, New: []uint8{2}})}},
		{what: "one that has none", were: []api.Rec{high}, d: wrong(1<<63+1, []uint8{1, 2}, []uint8{2}), e: api.ErrArg},
		{what: "one that has none, itself", were: []api.Rec{high}, d: adopt(2, stable(1<<63, 1, 2), 9)},
	})
}

func TestAdoptDropsKeys(t *testing.T) {
	// On the ring of Old the node 2 keeps the key 1, and doesn't keep the keys 3 and 9.
	own := agreed(five())
	last := agreed(stable(6, six().New...))
	between := agreed(six())
	hold(t, []told{
		{what: "one that it keeps", were: []api.Rec{own, slot(1, b8, b4, plain())}, d: adopt(2, six(), 0), put: []api.Rec{between}},
		{what: "one that it doesn't keep", were: []api.Rec{own, slot(3, b8, b4, plain())}, d: adopt(2, six(), 0), put: []api.Rec{fence(8), gone(3), between}},
		{what: "nothing accepted yet", were: []api.Rec{own, promised(3, b5)}, d: adopt(2, six(), 0), put: []api.Rec{fence(5), gone(3), between}},
		{what: "a count of 0", were: []api.Rec{own, promised(3, under(0, 1, 0))}, d: adopt(2, six(), 0), put: []api.Rec{gone(3), between}},
		{what: "its fence is the same", were: []api.Rec{own, promised(3, b5), fence(5)}, d: adopt(2, six(), 0), put: []api.Rec{gone(3), between}},
		{what: "its fence is lower", were: []api.Rec{own, promised(3, b5), fence(4)}, d: adopt(2, six(), 5), put: []api.Rec{fence(5), gone(3), between}},
		{what: "the fence that is handed in comes behind them", were: []api.Rec{own, promised(3, b5)}, d: adopt(2, six(), 6), put: []api.Rec{fence(5), gone(3), fence(6), between}},
		{what: "two, by their numbers", were: []api.Rec{own, promised(9, b8), promised(3, b5)}, d: adopt(2, six(), 0), put: []api.Rec{fence(5), gone(3), fence(8), gone(9), between}},
		{what: "two, the first one higher", were: []api.Rec{own, promised(9, b5), promised(3, b8)}, d: adopt(2, six(), 0), put: []api.Rec{fence(8), gone(3), gone(9), between}},
		{what: "a node that is none of Old", were: []api.Rec{own, promised(1, b5), promised(3, b5)}, d: adopt(5, six(), 0), put: []api.Rec{fence(5), gone(1), gone(3), between}},
		{what: "a node that there can't be", were: []api.Rec{own, promised(0, b5), promised(15, b8)}, d: adopt(64, six(), 0), put: []api.Rec{fence(5), gone(0), fence(8), gone(15), between}},
		{what: "one that isn't between", were: []api.Rec{between, promised(3, b5)}, d: adopt(2, stable(6, six().New...), 0), put: []api.Rec{last}},
		{what: "one that isn't its step", were: []api.Rec{own, promised(3, b5)}, d: adopt(2, stable(6, six().New...), 0), e: api.ErrArg},
	})
}

func TestTwoAcceptorsShareNothing(t *testing.T) {
	_, a := made(t, 60)
	_, b := made(t, 60)
	must(t, "P16.1: Adopt", accept.Adopt(a, 1, five(), 3), api.OK)
	for _, s := range []struct {
		m    api.Msg
		want api.Msg
	}{
		{prepare(1, 5, 4, b5), promise(1, 5, 4, b5, b0, api.Reg{})},
		{prepare(1, 5, 4, b4), refused(prepare(1, 5, 4, b4), 4, 5)},
	} {
		if m, e := accept.Answer(a, 1, s.m); !msg.Same(m, s.want) || e != api.OK {
			t.Errorf("P16.1: Answer of %v: %v, %v, not %v", s.m, m, e, s.want)
		}
	}
	holdKnows(t, "P16.1: the other one", b, api.State{})
}
