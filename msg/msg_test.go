package msg_test

import (
	"math"
	"math/rand"
	"reflect"
	"testing"

	"scrutineer/api"
	"scrutineer/msg"
)

// under is a ballot.
func under(count uint64, node uint8, life uint32) api.Ballot {
	return api.Ballot{Count: count, Node: node, Life: life}
}

// plain is a register with one of all that it may have.
func plain() api.Reg {
	return api.Reg{
		Kind: api.Live, Inc: 3, State: 2, Vars: []int64{7, -1},
		Done:  []api.Done{{Client: 2, Seq: 9, Reply: api.Reply{Err: api.ErrGuard, Inc: 3, State: 1, Vars: []int64{5}}}},
		Out:   []api.Cell{{N: 4, Target: 15, Action: 31, Arg: -300}},
		Last:  6,
		Marks: []api.Mark{{Source: 1, Inc: 2, Cell: 300}},
	}
}

// largest is a register that has as much as it may of all.
func largest() api.Reg {
	full := func() []int64 { return []int64{math.MinInt64, 2, 3, 4, 5, 6, 7, math.MaxInt64} }
	r := api.Reg{Kind: api.Live, Inc: math.MaxUint64, State: 31, Vars: full(), Last: math.MaxUint64}
	for i := range uint8(8) {
		reply := api.Reply{Err: 99, Inc: math.MaxUint64, State: 31, Vars: full()}
		r.Done = append(r.Done, api.Done{Client: i + 1, Seq: math.MaxUint64, Reply: reply})
		r.Out = append(r.Out, api.Cell{N: math.MaxUint64 - 7 + uint64(i), Target: 15, Action: 31, Arg: math.MinInt64})
	}
	for i := range uint8(16) {
		r.Marks = append(r.Marks, api.Mark{Source: i, Inc: math.MaxUint64, Cell: math.MaxUint64})
	}
	return r
}

// regs are registers that may be; the first one is absent.
func regs() []api.Reg {
	return []api.Reg{
		{},
		{Kind: api.Live, Inc: 1},
		{Kind: api.Tomb, Inc: 3},
		{Kind: api.Tomb, Inc: 300, Done: []api.Done{{Client: 8, Seq: 1}}, Last: 5, Marks: []api.Mark{{Source: 15, Inc: 1, Cell: 1}}},
		plain(),
		largest(),
	}
}

// noRegs are registers that may not be.
func noRegs() []api.Reg {
	return []api.Reg{
		{Kind: 3, Inc: 1},
		{Inc: 1},
		{State: 1},
		{Vars: []int64{0}},
		{Done: []api.Done{{Client: 1, Seq: 1}}},
		{Out: []api.Cell{{}}},
		{Last: 1},
		{Marks: []api.Mark{{}}},
		{Kind: api.Live},
		{Kind: api.Live, Inc: 1, State: 32},
		{Kind: api.Live, Inc: 1, State: -1},
		{Kind: api.Live, Inc: 1, Vars: make([]int64, 9)},
		{Kind: api.Live, Inc: 1, Out: []api.Cell{{N: 1}}},
		{Kind: api.Tomb, Inc: 1, Vars: []int64{1}},
		{Kind: api.Tomb, Inc: 1, State: 1},
	}
}

// some are messages that may be, of each kind those at the edges.
func some() []api.Msg {
	b := under(7, 2, 9)
	l := []api.Msg{
		{Kind: api.MsgPrepare, From: 1, To: 2, B: under(1, 1, 0)},
		{Kind: api.MsgPrepare, From: 63, To: 63, Key: 15, Conf: math.MaxUint64, B: under(math.MaxUint64, 255, math.MaxUint32)},
		{Kind: api.MsgPrepare, B: under(0, 0, 1)},
		{Kind: api.MsgPrepare, B: under(0, 255, 0)},
		{Kind: api.MsgPromise, From: 4, B: b, OK: true},
		{Kind: api.MsgPromise, To: 4, B: b},
		{Kind: api.MsgPromise, Key: 4, B: b, Max: 1},
		{Kind: api.MsgPromise, Conf: 300, B: b, Max: math.MaxUint64},
		{Kind: api.MsgAccepted, From: 5, Key: 3, B: b, OK: true},
		{Kind: api.MsgAccepted, To: 5, B: b},
		{Kind: api.MsgAccepted, Conf: 1, B: b, Max: 1 << 63},
	}
	for i, r := range regs() {
		at := uint8(i)
		l = append(l,
			api.Msg{Kind: api.MsgPromise, From: at, Key: 9, B: b, OK: true, Acc: under(uint64(i), 0, 1), Reg: r},
			api.Msg{Kind: api.MsgPromise, To: at, Conf: 5, B: under(0, 0, 2), OK: true, Acc: under(math.MaxUint64, 255, math.MaxUint32), Reg: r},
			api.Msg{Kind: api.MsgAccept, From: at, To: 1, B: b, Reg: r},
			api.Msg{Kind: api.MsgAccept, Key: at, Conf: 129, B: b, Reg: r, Next: under(8, 2, 9)},
			api.Msg{Kind: api.MsgAccept, To: at, B: under(0, 255, math.MaxUint32), Reg: r, Next: under(math.MaxUint64, 255, math.MaxUint32)},
		)
	}
	return l
}

// faults are messages of which just one thing may not be.
func faults() []api.Msg {
	b, acc, next := under(7, 2, 9), under(3, 1, 1), under(8, 2, 9)
	l := []api.Msg{
		{},
		{B: b},
		{Kind: 5, B: b},
		{Kind: 255, B: b},
		{Kind: 129, B: b},
		{Kind: api.MsgPrepare, B: b, OK: true},
		{Kind: api.MsgPrepare, B: b, Acc: acc},
		{Kind: api.MsgPrepare, B: b, Acc: under(0, 0, 1)},
		{Kind: api.MsgPrepare, B: b, Next: next},
		{Kind: api.MsgPrepare, B: b, Max: 1},
		{Kind: api.MsgPromise, B: b, OK: true, Max: 1},
		{Kind: api.MsgPromise, B: b, OK: true, Next: next},
		{Kind: api.MsgPromise, B: b, OK: true, Acc: acc, Next: next},
		{Kind: api.MsgPromise, B: b, OK: true, Acc: acc, Reg: plain(), Max: math.MaxUint64},
		{Kind: api.MsgPromise, B: b, Acc: acc},
		{Kind: api.MsgPromise, B: b, Next: next},
		{Kind: api.MsgPromise, B: b, Acc: acc, Reg: plain()},
		{Kind: api.MsgAccept, B: b, OK: true},
		{Kind: api.MsgAccept, B: b, Acc: acc},
		{Kind: api.MsgAccept, B: b, Max: 1},
		{Kind: api.MsgAccept, B: b, Next: b},
		{Kind: api.MsgAccept, B: b, Next: under(6, 2, 9)},
		{Kind: api.MsgAccept, B: b, Next: under(8, 3, 9)},
		{Kind: api.MsgAccept, B: b, Next: under(8, 1, 9)},
		{Kind: api.MsgAccept, B: b, Next: under(8, 2, 10)},
		{Kind: api.MsgAccept, B: b, Next: under(8, 2, 8)},
		{Kind: api.MsgAccept, B: b, Next: under(7, 3, 9)},
		{Kind: api.MsgAccept, B: b, Next: under(7, 2, 10)},
		{Kind: api.MsgAccept, B: b, Next: under(0, 2, 9)},
		{Kind: api.MsgAccepted, B: b, OK: true, Max: 1},
		{Kind: api.MsgAccepted, B: b, OK: true, Acc: acc},
		{Kind: api.MsgAccepted, B: b, Acc: acc},
		{Kind: api.MsgAccepted, B: b, Next: next},
		{Kind: api.MsgAccepted, B: b, OK: true, Next: next},
	}
	for _, m := range some() {
		for _, spoil := range []func(){
			func() { m.From = 64 },
			func() { m.From = 255 },
			func() { m.To = 64 },
			func() { m.To = 128 },
			func() { m.Key = 16 },
			func() { m.Key = 255 },
			func() { m.B = api.Ballot{} },
		} {
			keep := m
			spoil()
			l = append(l, m)
			m = keep
		}
	}
	// No register where none is, and none that may not be where one is.
	for _, r := range append(regs()[1:], noRegs()...) {
		l = append(l,
			api.Msg{Kind: api.MsgPrepare, B: b, Reg: r},
			api.Msg{Kind: api.MsgPromise, B: b, OK: true, Reg: r},
			api.Msg{Kind: api.MsgPromise, B: b, Reg: r},
			api.Msg{Kind: api.MsgAccepted, B: b, Reg: r},
			api.Msg{Kind: api.MsgAccepted, B: b, OK: true, Reg: r},
		)
	}
	for _, r := range noRegs() {
		l = append(l,
			api.Msg{Kind: api.MsgPromise, B: b, OK: true, Acc: acc, Reg: r},
			api.Msg{Kind: api.MsgAccept, B: b, Reg: r},
			api.Msg{Kind: api.MsgAccept, B: b, Reg: r, Next: next},
		)
	}
	return l
}

func TestMessagesThatMayBe(t *testing.T) {
	for _, m := range some() {
		if !msg.May(m) {
			t.Errorf("P11.1: May of %v: false", m)
		}
	}
	for _, m := range faults() {
		if msg.May(m) {
			t.Errorf("P11.1: May of %v: true", m)
		}
		if b, e := msg.Put(m); e != api.ErrForm || len(b) > 0 {
			t.Errorf("P11.1: Put of %v: %x, %v", m, b, e)
		}
	}
}

// isZero tells whether a register has nothing at all.
func isZero(r api.Reg) bool {
	return r.Kind == 0 && r.Inc == 0 && r.State == 0 && r.Last == 0 && len(r.Vars)+len(r.Done)+len(r.Out)+len(r.Marks) == 0
}

// mayModel tells whether a message may be, if it is told whether its register may be: each thing that a kind asks for
// is one of a row.
func mayModel(m api.Msg, mayReg bool) bool {
	type asked struct{ notOK, noAcc, noNext, noReg, noMax bool }
	x, fits := asked{}, true
	switch {
	case m.Kind == 1:
		x = asked{notOK: true, noAcc: true, noNext: true, noReg: true, noMax: true}
	case m.Kind == 2 && m.OK:
		x = asked{noNext: true, noMax: true, noReg: m.Acc == api.Ballot{}}
	case m.Kind == 2:
		x = asked{noAcc: true, noNext: true, noReg: true}
	case m.Kind == 3:
		x = asked{notOK: true, noAcc: true, noMax: true}
		fits = m.Next == api.Ballot{} || m.Next == under(m.Next.Count, m.B.Node, m.B.Life) && m.Next.Count > m.B.Count
	case m.Kind == 4:
		x = asked{noAcc: true, noNext: true, noReg: true, noMax: m.OK}
	default:
		return false
	}
	return fits && mayReg &&
		m.From <= 63 && m.To <= 63 && m.Key <= 15 && m.B != api.Ballot{} &&
		!(x.notOK && m.OK) &&
		!(x.noAcc && m.Acc != api.Ballot{}) &&
		!(x.noNext && m.Next != api.Ballot{}) &&
		!(x.noReg && !isZero(m.Reg)) &&
		!(x.noMax && m.Max != 0)
}

func TestMayOfAllThatIsPutTogether(t *testing.T) {
	ballots := []api.Ballot{{}, under(0, 0, 1), under(7, 2, 9), under(8, 2, 9), under(6, 2, 9), under(8, 3, 9), under(8, 2, 8), under(math.MaxUint64, 0, 1), under(1, 0, 0)}
	registers := append(regs(), noRegs()...)
	ok := len(regs())
	count := map[bool]int{}
	for kind := range uint8(6) {
		for _, is := range []bool{false, true} {
			for _, b := range ballots {
				for _, acc := range ballots {
					for _, next := range ballots {
						for i, r := range registers {
							for _, most := range []uint64{0, 1} {
								m := api.Msg{Kind: kind, From: 63, Key: 15, B: b, OK: is, Acc: acc, Reg: r, Next: next, Max: most}
								want := mayModel(m, i < ok)
								count[want]++
								if got := msg.May(m); got != want {
									t.Fatalf("P11.1: May of %v: %v", m, got)
								}
							}
						}
					}
				}
			}
		}
	}
	if count[true] < 500 || count[false] < 100_000 {
		t.Error("P11.1: what is tried doesn't come to enough:", count)
	}
}

func TestMayOfAllHeads(t *testing.T) {
	for _, m := range []api.Msg{some()[0], some()[4], some()[5], some()[8], {Kind: api.MsgAccept, B: under(1, 1, 1), Reg: plain()}} {
		keep := m
		for x := range 256 {
			n := uint8(x)
			m = keep
			m.Kind = n
			if got, want := msg.May(m), mayModel(m, true); got != want {
				t.Fatalf("P11.1: May of the kind %d: %v", n, got)
			}
			m = keep
			m.From = n
			if got := msg.May(m); got != (n < 64) {
				t.Fatalf("P11.1: May from the node %d: %v", n, got)
			}
			m = keep
			m.To = n
			if got := msg.May(m); got != (n < 64) {
				t.Fatalf("P11.1: May to the node %d: %v", n, got)
			}
			m = keep
			m.Key = n
			if got := msg.May(m); got != (n < 16) {
				t.Fatalf("P11.1: May of the key %d: %v", n, got)
			}
			m = keep
			m.Conf = 1 << (n % 64)
			m.B.Node, m.B.Life = n, math.MaxUint32-uint32(n)
			if !msg.May(m) {
				t.Fatalf("P11.1: May under the configuration %d, and %v: false", m.Conf, m.B)
			}
		}
	}
}

// places are the places of all numbers and truths of a value.
func places(x reflect.Value) []reflect.Value {
	var l []reflect.Value
	switch x.Kind() {
	case reflect.Slice:
		for i := range x.Len() {
			l = append(l, places(x.Index(i))...)
		}
	case reflect.Struct:
		for i := range x.NumField() {
			l = append(l, places(x.Field(i))...)
		}
	default:
		l = append(l, x)
	}
	return l
}

// turn changes what stands at a place.
func turn(place reflect.Value, by int) {
	switch {
	case place.Kind() == reflect.Bool:
		place.SetBool(!place.Bool())
	case place.CanInt():
		place.SetInt(place.Int() + int64(by))
	default:
		place.SetUint(place.Uint() + uint64(by))
	}
}

// alike tells whether two values have the same in all of their places, nil lists being like empty ones.
func alike(a, b any) bool {
	return alikeValues(reflect.ValueOf(a), reflect.ValueOf(b))
}

func alikeValues(a, b reflect.Value) bool {
	switch a.Kind() {
	case reflect.Slice:
		if a.Len() != b.Len() {
			return false
		}
		for i := range a.Len() {
			if !alikeValues(a.Index(i), b.Index(i)) {
				return false
			}
		}
		return true
	case reflect.Struct:
		for i := range a.NumField() {
			if !alikeValues(a.Field(i), b.Field(i)) {
				return false
			}
		}
		return true
	}
	return a.Equal(b)
}

// withRoom is a list in new memory, with so much room behind it.
func withRoom[T any](l []T, room int) []T {
	return append(make([]T, 0, len(l)+room), l...)
}

// clone is the same message in new memory, with so much room behind each list.
func clone(m api.Msg, room int) api.Msg {
	x := &m.Reg
	x.Vars = withRoom(x.Vars, room)
	x.Done = withRoom(x.Done, room)
	for i := range x.Done {
		x.Done[i].Reply.Vars = withRoom(x.Done[i].Reply.Vars, room)
	}
	x.Out = withRoom(x.Out, room)
	x.Marks = withRoom(x.Marks, room)
	return m
}

func TestSameOfAllPairs(t *testing.T) {
	l := append(some(), faults()...)
	for i, a := range l {
		for _, b := range l[:i+1] {
			want := alike(a, b)
			if msg.Same(a, b) != want || msg.Same(b, a) != want {
				t.Fatalf("P11.1: Same of %v and %v isn't %v", a, b, want)
			}
		}
		if !msg.Same(a, clone(a, 3)) {
			t.Fatalf("P11.1: Same of %v and what is like it: false", a)
		}
	}
}

func TestSameLooksAtEachField(t *testing.T) {
	full := api.Msg{Kind: 3, From: 4, To: 5, Key: 6, Conf: 7, B: under(8, 9, 10), OK: true, Acc: under(11, 12, 13), Reg: plain(), Next: under(14, 15, 16), Max: 17}
	for _, m := range []api.Msg{full, {}, some()[0], {Kind: 2, Reg: largest()}} {
		changed := clone(m, 0)
		for i, place := range places(reflect.ValueOf(&changed).Elem()) {
			for _, by := range []int{1, -1} {
				turn(place, by)
				if msg.Same(m, changed) || msg.Same(changed, m) {
					t.Errorf("P11.1: Same of %v and %v, of which the number %d is another one: true", m, changed, i)
				}
				turn(place, -by)
			}
		}
		if !msg.Same(m, changed) {
			t.Errorf("P11.1: Same of %v and %v: false", m, changed)
		}
	}
	for _, longer := range []func(*api.Reg){
		func(r *api.Reg) { r.Vars = append(r.Vars, 0) },
		func(r *api.Reg) { r.Done = append(r.Done, api.Done{}) },
		func(r *api.Reg) { r.Out = append(r.Out, api.Cell{}) },
		func(r *api.Reg) { r.Marks = append(r.Marks, api.Mark{}) },
	} {
		changed := clone(full, 0)
		longer(&changed.Reg)
		if msg.Same(full, changed) || msg.Same(changed, full) {
			t.Errorf("P11.1: Same of %v and the longer %v: true", full, changed)
		}
	}
}

// random is a message that may be, of which each part is often at an edge.
func random(rnd *rand.Rand) api.Msg {
	number := func() uint64 { return rnd.Uint64() >> rnd.Intn(65) }
	oneBallot := func() api.Ballot {
		return under(1+number()>>1, uint8(rnd.Intn(256)), uint32(number()))
	}
	m := api.Msg{Kind: uint8(1 + rnd.Intn(4)), From: uint8(rnd.Intn(64)), To: uint8(rnd.Intn(64)), Key: uint8(rnd.Intn(16)), Conf: number(), B: oneBallot()}
	all := regs()
	switch m.Kind {
	case api.MsgPromise:
		m.OK = rnd.Intn(2) == 0
		if !m.OK {
			m.Max = number()
		} else if rnd.Intn(3) > 0 {
			m.Acc, m.Reg = oneBallot(), all[rnd.Intn(len(all))]
		}
	case api.MsgAccept:
		m.Reg = all[rnd.Intn(len(all))]
		if rnd.Intn(2) == 0 {
			m.Next = m.B
			m.Next.Count += 1 + number()%(math.MaxUint64-m.B.Count)
		}
	case api.MsgAccepted:
		m.OK = rnd.Intn(2) == 0
		if !m.OK {
			m.Max = number()
		}
	}
	return m
}
