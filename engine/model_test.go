package engine_test

import (
	"maps"
	"math"
	"math/bits"
	"math/rand"
	"slices"
	"testing"

	"scrutineer/api"
	"scrutineer/engine"
	"scrutineer/reg"
	"scrutineer/table"
)

// numbers are those at the edges of 64 bits.
var numbers = []uint64{0, 1, 2, 3, most - 5, most - 3, most - 1, most, most + 1, math.MaxUint64 - 1, math.MaxUint64}

// model is a register whose lists are maps.
type model struct {
	r     api.Reg
	done  map[uint8]api.Done
	out   map[uint64]api.Cell
	marks map[uint8]api.Mark
}

// unfold makes a register a model.
func unfold(r api.Reg) *model {
	m := &model{r, map[uint8]api.Done{}, map[uint64]api.Cell{}, map[uint8]api.Mark{}}
	for _, d := range r.Done {
		m.done[d.Client] = d
	}
	for _, c := range r.Out {
		m.out[c.N] = c
	}
	for _, k := range r.Marks {
		m.marks[k.Source] = k
	}
	return m
}

// fold makes a model a register.
func (m *model) fold() api.Reg {
	r := m.r
	r.Done, r.Out, r.Marks = nil, nil, nil
	for _, n := range slices.Sorted(maps.Keys(m.done)) {
		r.Done = append(r.Done, m.done[n])
	}
	for _, n := range slices.Sorted(maps.Keys(m.out)) {
		r.Out = append(r.Out, m.out[n])
	}
	for _, n := range slices.Sorted(maps.Keys(m.marks)) {
		r.Marks = append(r.Marks, m.marks[n])
	}
	return r
}

// settled tells whether a message is one that was settled.
func (m *model) settled(source uint8, inc, cell uint64) bool {
	k, has := m.marks[source]
	switch {
	case !has || k.Inc < inc:
		return false
	case k.Inc == inc:
		return cell <= k.Cell
	}
	return true
}

// fire does a party's action to a model.
func (m *model) fire(t api.Table, action, party int, arg int64) api.Errno {
	state, vars, cells, e := table.Fire(t, m.r.State, action, party, m.r.Vars, arg)
	if e != api.OK {
		return e
	}
	last, over := bits.Add64(m.r.Last, uint64(len(cells)), 0)
	if len(m.out)+len(cells) > 8 || over > 0 || last > 1<<63 {
		return api.ErrCells
	}
	for i, c := range cells {
		c.N = m.r.Last + 1 + uint64(i)
		m.out[c.N] = c
	}
	m.r.State, m.r.Vars, m.r.Last = state, vars, last
	return api.OK
}

// ofLive does what a live register alone has done to it.
func (m *model) ofLive(t api.Table, o api.Op) api.Errno {
	switch o.Kind {
	case api.OpFire:
		return m.fire(t, o.Action, o.Party, o.Arg)
	case api.OpDelete:
		if len(m.out) > 0 {
			return api.ErrState
		}
		m.r = api.Reg{Kind: api.Tomb, Inc: m.r.Inc}
	case api.OpConsume:
		e := m.fire(t, o.Action, 0, o.Arg)
		m.marks[o.Source] = api.Mark{Source: o.Source, Inc: o.Inc, Cell: o.Cell}
		return e
	}
	return api.OK
}

// do does an operation to a model.
func (m *model) do(t api.Table, o api.Op, count uint64) api.Errno {
	live := m.r.Kind == api.Live
	switch {
	case o.Kind == api.OpSame:
	case o.Kind == api.OpClear:
		if live && m.r.Inc == o.Inc {
			delete(m.out, o.Cell)
		}
	case o.Kind == api.OpCreate && live:
		return api.ErrThere
	case o.Kind == api.OpCreate:
		m.r = api.Reg{Kind: api.Live, Inc: count, Vars: make([]int64, t.Vars)}
	case o.Kind == api.OpConsume && m.settled(o.Source, o.Inc, o.Cell):
		return api.ErrDup
	case !live:
		return api.ErrAbsent
	default:
		return m.ofLive(t, o)
	}
	return api.OK
}

// applyModel is what Apply should answer.
func applyModel(t api.Table, r api.Reg, o api.Op, count uint64) (api.Reg, api.Reply, api.Errno) {
	if !mayModel(o) || !reg.May(r) || !table.May(t) || count == 0 || r.Kind == api.Live && len(r.Vars) != t.Vars {
		return api.Reg{}, api.Reply{}, api.ErrArg
	}
	m := unfold(r)
	if d, has := m.done[o.Client]; has && d.Seq > o.Seq {
		return r, api.Reply{Err: api.ErrOld}, api.OK
	} else if has && d.Seq == o.Seq {
		return r, d.Reply, api.OK
	}
	reply := api.Reply{Err: m.do(t, o, count)}
	if reply.Err == api.OK && m.r.Kind == api.Live {
		reply = api.Reply{Inc: m.r.Inc, State: m.r.State, Vars: m.r.Vars}
	}
	if o.Client > 0 && m.r.Kind != api.Absent {
		m.done[o.Client] = api.Done{Client: o.Client, Seq: o.Seq, Reply: reply}
	}
	return m.fold(), reply, api.OK
}

// one of a list.
func one[T any](rnd *rand.Rand, l []T) T { return l[rnd.Intn(len(l))] }

// number is one from 1 on, mostly a small one.
func number(rnd *rand.Rand) uint64 {
	if rnd.Intn(6) == 0 {
		return one(rnd, numbers[1:])
	}
	return 1 + uint64(rnd.Intn(6))
}

// formula is one that may be, with so many variables.
func formula(rnd *rand.Rand, vars int) []api.Tok {
	l := one(rnd, [][]api.Tok{c(1), c(-2), c(0), a()})
	if vars > 0 && rnd.Intn(2) == 0 {
		l = v(int64(rnd.Intn(vars)))
	}
	switch rnd.Intn(8) {
	case 0:
		return f(c(math.MaxInt64), l, api.TokAdd)
	case 1, 2:
		return f(l, c(int64(rnd.Intn(5))), uint8(4+rnd.Intn(7)))
	}
	return l
}

// contract is one that may be: few states, actions and parties, so that rules are often taken.
func contract(rnd *rand.Rand) api.Table {
	t := api.Table{States: 1 + rnd.Intn(2), Vars: rnd.Intn(4)}
	for range 12 {
		r := api.Rule{From: rnd.Intn(t.States), Action: rnd.Intn(2), Party: rnd.Intn(3), To: rnd.Intn(t.States)}
		if rnd.Intn(3) == 0 {
			r.Guard = formula(rnd, t.Vars)
		}
		for i := range t.Vars {
			if rnd.Intn(2) == 0 {
				r.Sets = append(r.Sets, api.Set{Var: i, Value: formula(rnd, t.Vars)})
			}
		}
		for range max(0, rnd.Intn(8)-3) {
			r.Emits = append(r.Emits, api.Emit{Target: uint8(rnd.Intn(16)), Action: rnd.Intn(32), Arg: formula(rnd, t.Vars)})
		}
		t.Rules = append(t.Rules, r)
	}
	return t
}

// values are so many variables.
func values(rnd *rand.Rand, vars int) []int64 {
	var l []int64
	for range vars {
		l = append(l, int64(number(rnd))-3)
	}
	return l
}

// register is one that may be, and that an operation can be done to.
func register(rnd *rand.Rand, t api.Table) api.Reg {
	if rnd.Intn(10) == 0 {
		return api.Reg{}
	}
	r := api.Reg{Kind: api.Tomb, Inc: number(rnd), Last: number(rnd) - 1}
	for i := range uint8(api.MaxClients) {
		if rnd.Intn(3) > 0 {
			reply := api.Reply{Err: api.Errno(rnd.Intn(100)), Inc: number(rnd), State: rnd.Intn(32), Vars: values(rnd, rnd.Intn(9))}
			r.Done = append(r.Done, api.Done{Client: i + 1, Seq: number(rnd), Reply: reply})
		}
	}
	for i := range uint8(api.MaxKeys) {
		if rnd.Intn(3) > 0 {
			r.Marks = append(r.Marks, api.Mark{Source: i, Inc: number(rnd), Cell: number(rnd)})
		}
	}
	if rnd.Intn(4) > 0 {
		r.Kind, r.State, r.Vars = api.Live, rnd.Intn(t.States), values(rnd, t.Vars)
		n := uint64(0)
		for range rnd.Intn(api.MaxCells + 1) {
			if n += 1 + uint64(rnd.Intn(2)); n <= r.Last {
				r.Out = append(r.Out, api.Cell{N: n, Target: uint8(rnd.Intn(16)), Action: rnd.Intn(32), Arg: -int64(n)})
			}
		}
	}
	return r
}

// near is a number by another one, or any.
func near(rnd *rand.Rand, n uint64) uint64 {
	switch rnd.Intn(5) {
	case 0:
		return number(rnd)
	case 1:
		return max(n, 2) - 1
	case 2, 3:
		return max(n+1, 1)
	}
	return max(n, 1)
}

// operation is one that may be, mostly near to what the register knows.
func operation(rnd *rand.Rand, r api.Reg) api.Op {
	o := api.Op{Kind: 1 + uint8(rnd.Intn(7)), Key: uint8(rnd.Intn(16)), Action: rnd.Intn(2), Party: rnd.Intn(3), Arg: int64(rnd.Intn(5)) - 1}
	o.Source, o.Inc, o.Cell = uint8(rnd.Intn(16)), number(rnd), number(rnd)
	switch o.Kind {
	case api.OpCreate, api.OpFire, api.OpRead, api.OpDelete:
		o.Client, o.Seq = 1+uint8(rnd.Intn(8)), number(rnd)
		o.Party = max(o.Party, 1)
		if len(r.Done) > 0 && rnd.Intn(3) > 0 {
			d := one(rnd, r.Done)
			o.Client, o.Seq = d.Client, near(rnd, d.Seq)
		}
	case api.OpConsume:
		if len(r.Marks) > 0 && rnd.Intn(3) > 0 {
			m := one(rnd, r.Marks)
			o.Source, o.Inc, o.Cell = m.Source, near(rnd, m.Inc), near(rnd, m.Cell)
		}
	case api.OpClear:
		if len(r.Out) > 0 && rnd.Intn(4) > 0 {
			o.Cell = one(rnd, r.Out).N
		}
		if r.Inc > 0 && rnd.Intn(4) > 0 {
			o.Inc = r.Inc
		}
	}
	return o
}

// asSaid holds Apply against the model, and all that is told of a register.
func asSaid(t *testing.T, x api.Table, r api.Reg, o api.Op, count uint64) (api.Reg, api.Reply, api.Errno) {
	t.Helper()
	if engine.May(o) != mayModel(o) {
		t.Fatalf("P7.1: May of %v isn't %v", o, mayModel(o))
	}
	wantReg, wantReply, wantErr := applyModel(x, r, o, count)
	y, reply, e := engine.Apply(x, r, o, count)
	if e != wantErr || !reg.Same(y, wantReg) || !reg.SameReply(reply, wantReply) {
		t.Fatalf("P7.1: %v of %v, %d: %v, %v, %v, not %v, %v, %v", o, r, count, y, reply, e, wantReg, wantReply, wantErr)
	}
	if !reg.May(y) {
		t.Fatalf("P7.1: what comes of a register that may be may not be: %v", y)
	}
	m := unfold(r)
	if got := engine.Settled(r, o.Source, o.Inc, o.Cell); reg.May(r) && got != m.settled(o.Source, o.Inc, o.Cell) {
		t.Fatalf("P7.1: Settled of %d, %d, %d in %v: %v", o.Source, o.Inc, o.Cell, r, got)
	}
	toTarget := slices.DeleteFunc(slices.Sorted(maps.Keys(m.out)), func(n uint64) bool { return m.out[n].Target != o.Source })
	next, has := engine.Next(r, o.Source)
	if reg.May(r) && (has != (len(toTarget) > 0) || has && next != m.out[toTarget[0]]) {
		t.Fatalf("P7.1: Next to %d in %v: %v, %v", o.Source, r, next, has)
	}
	return y, reply, e
}

// what is a kind of operation, and an error that it came to.
type what struct {
	kind uint8
	e    api.Errno
}

// enough tells of what didn't come often enough.
func enough(t *testing.T, came map[what]int, least int) {
	t.Helper()
	every := map[uint8][]api.Errno{
		api.OpCreate:  {api.OK, api.ErrThere, api.ErrOld},
		api.OpFire:    {api.OK, api.ErrAbsent, api.ErrGuard, api.ErrCalc, api.ErrCells, api.ErrOld},
		api.OpRead:    {api.OK, api.ErrAbsent, api.ErrOld},
		api.OpDelete:  {api.OK, api.ErrAbsent, api.ErrState, api.ErrOld},
		api.OpConsume: {api.OK, api.ErrAbsent, api.ErrGuard, api.ErrCalc, api.ErrCells, api.ErrDup},
		api.OpClear:   {api.OK},
		api.OpSame:    {api.OK},
	}
	for kind, l := range every {
		for _, e := range l {
			if n := came[what{kind, e}]; n < least {
				t.Errorf("P7.1: operations of the kind %d that are tried come to %v only %d times", kind, e, n)
			}
		}
	}
}

func TestOperationsThatMayBe(t *testing.T) {
	rnd := rand.New(rand.NewSource(1))
	came := map[what]int{}
	for range 6000 {
		x := contract(rnd)
		for range 10 {
			r := register(rnd, x)
			o := operation(rnd, r)
			_, reply, e := asSaid(t, x, r, o, number(rnd))
			if e != api.OK {
				t.Fatalf("P7.1: what is tried can't be done: %v of %v, %v: %v", o, r, x, e)
			}
			came[what{o.Kind, reply.Err}]++
		}
	}
	enough(t, came, 50)
}

func TestOperationsWithFaults(t *testing.T) {
	rnd := rand.New(rand.NewSource(2))
	came := map[api.Errno]int{}
	odd := func() int { return one(rnd, []int{math.MinInt, -1, 0, 7, 8, 31, 32, math.MaxInt}) }
	for range 30_000 {
		x := contract(rnd)
		r := register(rnd, x)
		o := operation(rnd, r)
		count := number(rnd)
		switch rnd.Intn(12) {
		case 0:
			count = 0
		case 1:
			x.States = odd()
		case 2:
			x.Vars = odd()
		case 3:
			x.Rules[rnd.Intn(12)].Party = odd()
		case 4:
			r.Vars = values(rnd, rnd.Intn(10))
		case 5:
			r.Kind = uint8(rnd.Intn(4))
		case 6:
			r.State = odd()
		case 7:
			*one(rnd, []*uint8{&o.Kind, &o.Key, &o.Client, &o.Source}) = one(rnd, []uint8{0, 1, 2, 5, 7, 8, 9, 15, 16, 255})
		case 8:
			*one(rnd, []*int{&o.Action, &o.Party}) = odd()
		case 9:
			*one(rnd, []*uint64{&o.Seq, &o.Inc, &o.Cell}) = one(rnd, numbers)
		case 10:
			slices.Reverse(r.Done)
		case 11:
			slices.Reverse(r.Marks)
		}
		_, _, e := asSaid(t, x, r, o, count)
		came[e]++
	}
	if came[api.OK] < 5000 || came[api.ErrArg] < 10_000 {
		t.Error("P7.1: what is tried doesn't come to enough:", came)
	}
}

func TestRowsOfOperations(t *testing.T) {
	rnd := rand.New(rand.NewSource(3))
	came := map[what]int{}
	for range 500 {
		x := contract(rnd)
		var r api.Reg
		for count := range uint64(200) {
			o := operation(rnd, r)
			y, reply, _ := asSaid(t, x, r, o, count+1)
			came[what{o.Kind, reply.Err}]++
			r = y
		}
	}
	enough(t, came, 50)
}
