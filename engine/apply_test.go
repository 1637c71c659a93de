package engine_test

import (
	"math"
	"testing"

	"scrutineer/api"
	"scrutineer/engine"
	"scrutineer/reg"
)

// most is how high Last may go.
const most = 1 << 63

// c, v and a are formulas of a constant, a variable, and the argument alone.
func c(n int64) []api.Tok { return []api.Tok{{Op: api.TokConst, N: n}} }
func v(n int64) []api.Tok { return []api.Tok{{Op: api.TokVar, N: n}} }
func a() []api.Tok        { return []api.Tok{{Op: api.TokArg}} }

// f is what two formulas come to by a sign.
func f(x, y []api.Tok, op uint8) []api.Tok {
	return append(append(append([]api.Tok{}, x...), y...), api.Tok{Op: op})
}

// shop is a contract: a client orders goods that are there, which tells two others; a worker brings goods.
func shop() api.Table {
	const (
		open = iota
		full
	)
	return api.Table{States: 2, Vars: 2, Rules: []api.Rule{
		{From: open, Action: 1, Party: 1, To: full, Guard: f(a(), v(0), api.TokLess),
			Sets:  []api.Set{{Var: 0, Value: f(v(0), a(), api.TokSub)}, {Var: 1, Value: a()}},
			Emits: []api.Emit{{Target: 4, Action: 9, Arg: a()}, {Target: 2, Action: 8, Arg: v(1)}}},
		{From: full, Action: 2, Party: 7, To: open},
		{From: open, Action: 1, Party: 0, To: open, Sets: []api.Set{{Var: 0, Value: f(v(0), a(), api.TokAdd)}}},
		{From: full, Action: 1, Party: 0, To: open, Emits: []api.Emit{{Target: 15, Action: 31, Arg: v(0)}}},
		{From: open, Action: 3, Party: 1, To: full},
	}}
}

// stock is a live register of the shop, with some of each.
func stock() api.Reg {
	return api.Reg{
		Kind: api.Live, Inc: 6, Vars: []int64{10, 20},
		Done: []api.Done{
			{Client: 2, Seq: 7, Reply: api.Reply{Inc: 5, State: 1, Vars: []int64{4, -5}}},
			{Client: 4, Seq: 8, Reply: api.Reply{Err: api.ErrGuard}},
		},
		Out:   []api.Cell{{N: 3, Target: 9, Action: 1, Arg: -5}, {N: 5, Target: 2, Arg: 6}},
		Last:  7,
		Marks: []api.Mark{{Source: 1, Inc: 2, Cell: 3}, {Source: 11, Inc: 4, Cell: 5}},
	}
}

// tomb is a tombstone with what stays of that.
func tomb() api.Reg {
	return api.Reg{Kind: api.Tomb, Inc: 6, Done: stock().Done, Marks: stock().Marks}
}

// but is a register with changes.
func but(r api.Reg, changes ...func(r *api.Reg)) api.Reg {
	for _, change := range changes {
		change(&r)
	}
	return r
}

// noted is a change: the client 3's entry, between the others, and its reply.
func noted(reply api.Reply) func(r *api.Reg) {
	return func(r *api.Reg) {
		d := api.Done{Client: 3, Seq: 1, Reply: reply}
		r.Done = append(append(append([]api.Done{}, r.Done[:1]...), d), r.Done[1:]...)
	}
}

// done is a change: the register has these entries alone.
func done(l ...api.Done) func(r *api.Reg) { return func(r *api.Reg) { r.Done = l } }

// marked is a change: the register has these marks.
func marked(l ...api.Mark) func(r *api.Reg) { return func(r *api.Reg) { r.Marks = l } }

// row is one operation that is done to a register, with the count 9: what comes of it.
type row struct {
	name  string
	r     api.Reg
	o     api.Op
	want  api.Reg
	reply api.Reply
}

// rowsAsSaid does each row's operation, twice, as the second time nothing else may come of it.
func rowsAsSaid(t *testing.T, x api.Table, l []row) {
	t.Helper()
	for _, w := range l {
		for range 2 {
			r, reply, e := engine.Apply(x, w.r, w.o, 9)
			if e != api.OK || !reg.Same(r, w.want) || !reg.SameReply(reply, w.reply) {
				t.Errorf("P7.1: %s: %v, %v, %v, not %v, %v", w.name, r, reply, e, w.want, w.reply)
			}
		}
	}
}

func TestCreate(t *testing.T) {
	o := api.Op{Kind: api.OpCreate, Key: 5, Client: 3, Seq: 1, Action: 1, Party: 1, Arg: 4, Source: 2, Inc: 3, Cell: 4}
	made := api.Reply{Inc: 9, Vars: []int64{0, 0}}
	there := api.Reply{Err: api.ErrThere}
	anew := api.Reg{Kind: api.Live, Inc: 9, Vars: []int64{0, 0}}
	rowsAsSaid(t, shop(), []row{
		{"of an absent one", api.Reg{}, o, but(anew, done(api.Done{Client: 3, Seq: 1, Reply: made})), made},
		{"of a tombstone", tomb(), o, but(tomb(), func(r *api.Reg) { r.Kind, r.Inc, r.Vars = api.Live, 9, []int64{0, 0} }, noted(made)), made},
		{"of a tombstone with a Last", but(tomb(), func(r *api.Reg) { r.Last = 77 }), o,
			but(tomb(), func(r *api.Reg) { r.Kind, r.Inc, r.Vars = api.Live, 9, []int64{0, 0} }, noted(made)), made},
		{"of a tombstone of a higher incarnation", api.Reg{Kind: api.Tomb, Inc: 99}, o, but(anew, done(api.Done{Client: 3, Seq: 1, Reply: made})), made},
		{"of a live one", stock(), o, but(stock(), noted(there)), there},
	})
	none := api.Table{States: 1}
	bare := api.Reply{Inc: 9}
	rowsAsSaid(t, none, []row{
		{"without variables", api.Reg{}, o, api.Reg{Kind: api.Live, Inc: 9, Done: []api.Done{{Client: 3, Seq: 1, Reply: bare}}}, bare},
	})
	eight := api.Table{States: 1, Vars: 8}
	wide := api.Reply{Inc: 9, Vars: make([]int64, 8)}
	rowsAsSaid(t, eight, []row{
		{"with all variables", api.Reg{}, o, api.Reg{Kind: api.Live, Inc: 9, Vars: make([]int64, 8), Done: []api.Done{{Client: 3, Seq: 1, Reply: wide}}}, wide},
	})
}

func TestCreateHasTheCountAsIncarnation(t *testing.T) {
	for _, count := range []uint64{1, 7, 8, most, math.MaxUint64} {
		r, reply, e := engine.Apply(shop(), api.Reg{}, api.Op{Kind: api.OpCreate, Client: 1, Seq: 1}, count)
		if e != api.OK || r.Kind != api.Live || r.Inc != count || reply.Inc != count {
			t.Errorf("P7.1: a create with the count %d: %v, %v, %v", count, r, reply, e)
		}
	}
}

func TestFire(t *testing.T) {
	fire := func(action, party int, arg int64) api.Op {
		return api.Op{Kind: api.OpFire, Key: 5, Client: 3, Seq: 1, Action: action, Party: party, Arg: arg, Source: 1, Inc: 2, Cell: 4}
	}
	full := func(r *api.Reg) { r.State = 1 }
	ordered := api.Reply{Inc: 6, State: 1, Vars: []int64{6, 4}}
	opened := api.Reply{Inc: 6, Vars: []int64{10, 20}}
	closed := api.Reply{Inc: 6, State: 1, Vars: []int64{10, 20}}
	failed := func(e api.Errno) api.Reply { return api.Reply{Err: e} }
	rowsAsSaid(t, shop(), []row{
		{"an action that emits", stock(), fire(1, 1, 4), but(stock(), func(r *api.Reg) {
			r.State, r.Vars, r.Last = 1, []int64{6, 4}, 9
			r.Out = append(r.Out, api.Cell{N: 8, Target: 4, Action: 9, Arg: 4}, api.Cell{N: 9, Target: 2, Action: 8, Arg: 20})
		}, noted(ordered)), ordered},
		{"an action of another party", but(stock(), full), fire(2, 7, 4), but(stock(), noted(opened)), opened},
		{"an action of the state alone", stock(), fire(3, 1, 0), but(stock(), full, noted(closed)), closed},
		{"a Guard that doesn't hold", stock(), fire(1, 1, 10), but(stock(), noted(failed(api.ErrGuard))), failed(api.ErrGuard)},
		{"no such rule", stock(), fire(1, 2, 4), but(stock(), noted(failed(api.ErrGuard))), failed(api.ErrGuard)},
		{"no such state", but(stock(), full), fire(3, 1, 0), but(stock(), full, noted(failed(api.ErrGuard))), failed(api.ErrGuard)},
		{"a state that the contract hasn't", but(stock(), func(r *api.Reg) { r.State = 31 }), fire(3, 1, 0),
			but(stock(), func(r *api.Reg) { r.State = 31 }, noted(failed(api.ErrGuard))), failed(api.ErrGuard)},
		{"a number without room", stock(), fire(1, 1, math.MinInt64), but(stock(), noted(failed(api.ErrCalc))), failed(api.ErrCalc)},
		{"of an absent one", api.Reg{}, fire(1, 1, 4), api.Reg{}, failed(api.ErrAbsent)},
		{"of a tombstone", tomb(), fire(1, 1, 4), but(tomb(), noted(failed(api.ErrAbsent))), failed(api.ErrAbsent)},
	})
}

func TestReadAndSame(t *testing.T) {
	read := api.Op{Kind: api.OpRead, Client: 3, Seq: 1}
	same := api.Op{Kind: api.OpSame}
	told := api.Reply{Inc: 6, Vars: []int64{10, 20}}
	absent := api.Reply{Err: api.ErrAbsent}
	odd := func(r *api.Reg) { r.State = 31 }
	oddly := api.Reply{Inc: 6, State: 31, Vars: []int64{10, 20}}
	rowsAsSaid(t, shop(), []row{
		{"a read of a live one", stock(), read, but(stock(), noted(told)), told},
		{"a read of a state that the contract hasn't", but(stock(), odd), read, but(stock(), odd, noted(oddly)), oddly},
		{"a read of an absent one", api.Reg{}, read, api.Reg{}, absent},
		{"a read of a tombstone", tomb(), read, but(tomb(), noted(absent)), absent},
		{"a same of a live one", stock(), same, stock(), told},
		{"a same of an absent one", api.Reg{}, same, api.Reg{}, api.Reply{}},
		{"a same of a tombstone", tomb(), same, tomb(), api.Reply{}},
	})
}

func TestDelete(t *testing.T) {
	o := api.Op{Kind: api.OpDelete, Client: 3, Seq: 1}
	absent := api.Reply{Err: api.ErrAbsent}
	waits := api.Reply{Err: api.ErrState}
	empty := func(r *api.Reg) { r.State, r.Out = 1, nil }
	oneLeft := func(r *api.Reg) { r.Out = r.Out[:1] }
	rowsAsSaid(t, shop(), []row{
		{"of one without cells", but(stock(), empty), o, but(tomb(), noted(api.Reply{})), api.Reply{}},
		{"of one with a cell", but(stock(), oneLeft), o, but(stock(), oneLeft, noted(waits)), waits},
		{"of one with cells", stock(), o, but(stock(), noted(waits)), waits},
		{"of an absent one", api.Reg{}, o, api.Reg{}, absent},
		{"of a tombstone", tomb(), o, but(tomb(), noted(absent)), absent},
		{"of a tombstone with a Last", but(tomb(), func(r *api.Reg) { r.Last = 77 }), o, but(tomb(), func(r *api.Reg) { r.Last = 77 }, noted(absent)), absent},
	})
}

func TestConsume(t *testing.T) {
	consume := func(source uint8, inc, cell uint64, action int, arg int64) api.Op {
		// The party is the worker's, whatever stands in the operation.
		return api.Op{Kind: api.OpConsume, Key: 5, Source: source, Inc: inc, Cell: cell, Action: action, Party: 1, Arg: arg}
	}
	first, last := stock().Marks[0], stock().Marks[1]
	brought := func(r *api.Reg) { r.Vars = []int64{14, 20} }
	told := api.Reply{Inc: 6, Vars: []int64{14, 20}}
	full := func(r *api.Reg) { r.State = 1 }
	emitted := func(r *api.Reg) {
		r.State, r.Last = 0, 8
		r.Out = append(r.Out, api.Cell{N: 8, Target: 15, Action: 31, Arg: 10})
	}
	failed := func(e api.Errno) api.Reply { return api.Reply{Err: e} }
	mark := func(source uint8, inc, cell uint64) api.Mark { return api.Mark{Source: source, Inc: inc, Cell: cell} }
	rowsAsSaid(t, shop(), []row{
		{"of a new source, ahead of all", stock(), consume(0, 1, 1, 1, 4), but(stock(), brought, marked(mark(0, 1, 1), first, last)), told},
		{"of a new source, between", stock(), consume(5, 9, 8, 1, 4), but(stock(), brought, marked(first, mark(5, 9, 8), last)), told},
		{"of a new source, behind all", stock(), consume(15, 1, 1, 1, 4), but(stock(), brought, marked(first, last, mark(15, 1, 1))), told},
		{"of the next cell", stock(), consume(1, 2, 4, 1, 4), but(stock(), brought, marked(mark(1, 2, 4), last)), told},
		{"of a cell far behind", stock(), consume(11, 4, math.MaxUint64, 1, 4), but(stock(), brought, marked(first, mark(11, 4, math.MaxUint64))), told},
		{"of a later incarnation's first", stock(), consume(11, 5, 1, 1, 4), but(stock(), brought, marked(first, mark(11, 5, 1))), told},
		{"without a mark", but(stock(), marked()), consume(11, 5, 1, 1, 4), but(stock(), brought, marked(mark(11, 5, 1))), told},
		{"that emits", but(stock(), full), consume(1, 2, 4, 1, 4), but(stock(), full, emitted, marked(mark(1, 2, 4), last)), api.Reply{Inc: 6, Vars: []int64{10, 20}}},

		{"of the cell of the mark", stock(), consume(1, 2, 3, 1, 4), stock(), failed(api.ErrDup)},
		{"of a cell below", stock(), consume(1, 2, 2, 1, 4), stock(), failed(api.ErrDup)},
		{"of an elder incarnation", stock(), consume(1, 1, 9, 1, 4), stock(), failed(api.ErrDup)},
		{"of the cell of the last mark", stock(), consume(11, 4, 5, 1, 4), stock(), failed(api.ErrDup)},
		{"of a tombstone, again", tomb(), consume(11, 4, 5, 1, 4), tomb(), failed(api.ErrDup)},

		{"of an absent one", api.Reg{}, consume(1, 2, 3, 1, 4), api.Reg{}, failed(api.ErrAbsent)},
		{"of a tombstone", tomb(), consume(11, 4, 6, 1, 4), tomb(), failed(api.ErrAbsent)},
		{"of a tombstone, of a new source", tomb(), consume(3, 4, 6, 1, 4), tomb(), failed(api.ErrAbsent)},

		// With an error it is settled, too.
		{"of a party's action", stock(), consume(1, 2, 4, 3, 4), but(stock(), marked(mark(1, 2, 4), last)), failed(api.ErrGuard)},
		{"of a number without room", stock(), consume(5, 1, 1, 1, math.MaxInt64), but(stock(), marked(first, mark(5, 1, 1), last)), failed(api.ErrCalc)},
		{"of a Last without room", but(stock(), full, func(r *api.Reg) { r.Last = most }), consume(5, 1, 1, 1, 4),
			but(stock(), full, func(r *api.Reg) { r.Last = most }, marked(first, mark(5, 1, 1), last)), failed(api.ErrCells)},
	})
}

func TestClear(t *testing.T) {
	clear := func(inc, cell uint64) api.Op { return api.Op{Kind: api.OpClear, Source: 1, Inc: inc, Cell: cell} }
	told := api.Reply{Inc: 6, Vars: []int64{10, 20}}
	firstGone := func(r *api.Reg) { r.Out = r.Out[1:] }
	lastGone := func(r *api.Reg) { r.Out = r.Out[:1] }
	none := func(r *api.Reg) { r.Out = nil }
	rowsAsSaid(t, shop(), []row{
		{"of the first cell", stock(), clear(6, 3), but(stock(), firstGone), told},
		{"of the last cell", stock(), clear(6, 5), but(stock(), lastGone), told},
		{"of the only cell", but(stock(), firstGone), clear(6, 5), but(stock(), none), told},
		{"of a cell between", stock(), clear(6, 4), stock(), told},
		{"of a cell behind", stock(), clear(6, 7), stock(), told},
		{"of the highest cell", stock(), clear(6, math.MaxUint64), stock(), told},
		{"without cells", but(stock(), none), clear(6, 3), but(stock(), none), told},
		{"of an elder incarnation", stock(), clear(5, 3), stock(), told},
		{"of a later incarnation", stock(), clear(7, 3), stock(), told},
		{"of the count", stock(), clear(9, 3), stock(), told},
		{"of an absent one", api.Reg{}, clear(6, 3), api.Reg{}, api.Reply{}},
		{"of a tombstone", tomb(), clear(6, 3), tomb(), api.Reply{}},
	})
}

func TestRoomForCells(t *testing.T) {
	for emits := range api.MaxEmits + 1 {
		x := api.Table{States: 2, Rules: []api.Rule{{Action: 1, Party: 1, To: 1}}}
		for i := range emits {
			x.Rules[0].Emits = append(x.Rules[0].Emits, api.Emit{Target: uint8(i), Arg: c(int64(i))})
		}
		for waits := range uint64(api.MaxCells + 1) {
			for _, last := range []uint64{8, 9, most - 5, most - 4, most - 3, most - 2, most - 1, most, most + 1, math.MaxUint64 - 3, math.MaxUint64} {
				r := api.Reg{Kind: api.Live, Inc: 1, Last: last}
				for i := range waits {
					r.Out = append(r.Out, api.Cell{N: i + 1})
				}
				fits := waits+uint64(emits) <= 8 && last <= most && last+uint64(emits) <= most
				y, reply, e := engine.Apply(x, r, api.Op{Kind: api.OpFire, Client: 1, Seq: 1, Action: 1, Party: 1}, 9)
				if !fits {
					r.Done = []api.Done{{Client: 1, Seq: 1, Reply: api.Reply{Err: api.ErrCells}}}
					if e != api.OK || reply.Err != api.ErrCells || !reg.Same(y, r) {
						t.Errorf("P7.1: %d cells more than %d, behind the number %d: %v, %v, %v", emits, waits, last, y, reply, e)
					}
					continue
				}
				r.State = 1
				for i := range emits {
					r.Last++
					r.Out = append(r.Out, api.Cell{N: r.Last, Target: uint8(i), Arg: int64(i)})
				}
				r.Done = []api.Done{{Client: 1, Seq: 1, Reply: api.Reply{Inc: 1, State: 1}}}
				if e != api.OK || !reg.SameReply(reply, r.Done[0].Reply) || !reg.Same(y, r) {
					t.Errorf("P7.1: %d cells more than %d, behind the number %d: %v, %v, %v, not %v", emits, waits, last, y, reply, e, r)
				}
			}
		}
	}
}

func TestErrorsOfAnActionStandAheadOfRoom(t *testing.T) {
	x := api.Table{States: 1, Rules: []api.Rule{
		{Action: 1, Party: 1, Emits: []api.Emit{{Arg: f(a(), c(1), api.TokAdd)}}},
	}}
	for _, w := range []struct {
		action int
		arg    int64
		want   api.Errno
	}{{1, 0, api.ErrCells}, {1, math.MaxInt64, api.ErrCalc}, {2, 0, api.ErrGuard}} {
		r := api.Reg{Kind: api.Live, Inc: 1, Last: most}
		_, reply, e := engine.Apply(x, r, api.Op{Kind: api.OpFire, Client: 1, Seq: 1, Action: w.action, Party: 1, Arg: w.arg}, 9)
		if e != api.OK || reply.Err != w.want {
			t.Errorf("P0.2: the action %d with %d, without room: %v, %v, not %v", w.action, w.arg, reply, e, w.want)
		}
	}
}

func TestTwice(t *testing.T) {
	// What the client 2's entry tells is told again, of whatever operation has its number.
	known := stock().Done[0].Reply
	old := api.Reply{Err: api.ErrOld}
	var l []row
	for _, kind := range []uint8{api.OpCreate, api.OpFire, api.OpRead, api.OpDelete} {
		o := api.Op{Kind: kind, Client: 2, Seq: 7, Action: 1, Party: 1, Arg: 4}
		below, fourth, fourthBelow := o, o, o
		below.Seq = 6
		fourth.Client, fourth.Seq = 4, 8
		fourthBelow.Client, fourthBelow.Seq = 4, 1
		for _, r := range []api.Reg{stock(), tomb()} {
			l = append(l,
				row{"the same number", r, o, r, known},
				row{"the same number as an error", r, fourth, r, stock().Done[1].Reply},
				row{"a lower number", r, below, r, old},
				row{"a lower number than of an error", r, fourthBelow, r, old},
			)
		}
	}
	rowsAsSaid(t, shop(), l)
}

func TestEntries(t *testing.T) {
	read := func(client uint8, seq uint64) api.Op { return api.Op{Kind: api.OpRead, Client: client, Seq: seq} }
	told := api.Reply{Inc: 6, Vars: []int64{10, 20}}
	first, last := stock().Done[0], stock().Done[1]
	entry := func(client uint8, seq uint64) api.Done { return api.Done{Client: client, Seq: seq, Reply: told} }
	all := but(stock(), func(r *api.Reg) { r.Done = nil })
	for client := range uint8(8) {
		all.Done = append(all.Done, api.Done{Client: client + 1, Seq: 1})
	}
	allBut := func(client uint8, seq uint64) api.Reg {
		r := reg.Clone(all)
		r.Done[client-1] = entry(client, seq)
		return r
	}
	rowsAsSaid(t, shop(), []row{
		{"the first of all", but(stock(), done()), read(5, 9), but(stock(), done(entry(5, 9))), told},
		{"ahead of all", stock(), read(1, 9), but(stock(), done(entry(1, 9), first, last)), told},
		{"between", stock(), read(3, 9), but(stock(), done(first, entry(3, 9), last)), told},
		{"behind all", stock(), read(8, 1), but(stock(), done(first, last, entry(8, 1))), told},
		{"a number higher", stock(), read(2, 8), but(stock(), done(entry(2, 8), last)), told},
		{"a number much higher", stock(), read(4, math.MaxUint64), but(stock(), done(first, entry(4, math.MaxUint64))), told},
		{"the first of eight", all, read(1, 2), allBut(1, 2), told},
		{"the last of eight", all, read(8, 2), allBut(8, 2), told},
	})
}

func TestWhatCantBeDone(t *testing.T) {
	good := api.Op{Kind: api.OpFire, Client: 3, Seq: 1, Action: 1, Party: 1, Arg: 4}
	same := api.Op{Kind: api.OpSame}
	for _, x := range []struct {
		name  string
		t     api.Table
		r     api.Reg
		o     api.Op
		count uint64
		e     api.Errno
	}{
		{"nothing is wrong", shop(), stock(), good, 9, api.OK},
		{"a highest count", shop(), stock(), good, math.MaxUint64, api.OK},
		{"no operation", shop(), stock(), api.Op{}, 9, api.ErrArg},
		{"a fire of the party 0", shop(), stock(), api.Op{Kind: api.OpFire, Client: 3, Seq: 1, Action: 1}, 9, api.ErrArg},
		{"a same of a client", shop(), stock(), api.Op{Kind: api.OpSame, Client: 2, Seq: 7}, 9, api.ErrArg},
		{"a number that was done, of no kind", shop(), stock(), api.Op{Kind: 8, Client: 2, Seq: 7}, 9, api.ErrArg},
		{"no count", shop(), stock(), good, 0, api.ErrArg},
		{"no count for nothing", shop(), api.Reg{}, same, 0, api.ErrArg},
		{"no count for what was done", shop(), stock(), api.Op{Kind: api.OpRead, Client: 2, Seq: 7}, 0, api.ErrArg},
		{"a register that may not be", shop(), but(stock(), func(r *api.Reg) { r.Inc = 0 }), good, 9, api.ErrArg},
		{"a register of no kind", shop(), but(stock(), func(r *api.Reg) { r.Kind = 3 }), same, 9, api.ErrArg},
		{"an absent register with more", shop(), api.Reg{Last: 1}, same, 9, api.ErrArg},
		{"a tombstone with variables", shop(), but(tomb(), func(r *api.Reg) { r.Vars = []int64{1, 2} }), same, 9, api.ErrArg},
		{"no contract", api.Table{}, stock(), good, 9, api.ErrArg},
		{"no contract for nothing", api.Table{}, api.Reg{}, same, 9, api.ErrArg},
		{"no contract, as many variables", api.Table{Vars: 2}, stock(), same, 9, api.ErrArg},
		{"a contract that may not be", api.Table{States: 33, Vars: 2}, tomb(), same, 9, api.ErrArg},
		{"a variable less", shop(), but(stock(), func(r *api.Reg) { r.Vars = r.Vars[:1] }), good, 9, api.ErrArg},
		{"a variable less, for nothing", shop(), but(stock(), func(r *api.Reg) { r.Vars = r.Vars[:1] }), same, 9, api.ErrArg},
		{"no variables", shop(), but(stock(), func(r *api.Reg) { r.Vars = nil }), good, 9, api.ErrArg},
		{"a variable more", shop(), but(stock(), func(r *api.Reg) { r.Vars = []int64{1, 2, 3} }), good, 9, api.ErrArg},
		{"a tombstone has none", shop(), tomb(), good, 9, api.OK},
		{"an absent one has none", shop(), api.Reg{}, good, 9, api.OK},
	} {
		r, reply, e := engine.Apply(x.t, x.r, x.o, x.count)
		if e != x.e {
			t.Errorf("P7.1: %s: %v, not %v", x.name, e, x.e)
		}
		if e != api.OK && (!reg.Same(r, api.Reg{}) || !reg.SameReply(reply, api.Reply{})) {
			t.Errorf("P0.2: %s: %v, %v beside %v", x.name, r, reply, e)
		}
	}
}
