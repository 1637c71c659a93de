package engine

import (
	"cmp"
	"slices"

	"scrutineer/api"
	"scrutineer/reg"
	"scrutineer/table"
)

// worker is the party that messages are consumed by.
const worker = 0

// mostLast is the highest number that an action may bring Last to.
const mostLast uint64 = 1 << 63

// Apply is what an operation does.
func Apply(t api.Table, r api.Reg, o api.Op, count uint64) (api.Reg, api.Reply, api.Errno) {
	if !mayApply(t, r, o, count) {
		return api.Reg{}, api.Reply{}, api.ErrArg
	}
	// All that is done is done to a register of its own, as the one that is handed in isn't changed.
	r = reg.Clone(r)
	if reply, twice := again(r, o); twice {
		return r, reply, api.OK
	}
	e := do(t, &r, o, count)
	note(&r, o, replyOf(r, e))
	return r, replyOf(r, e), api.OK
}

// mayApply tells whether an operation can be done to a register.
func mayApply(t api.Table, r api.Reg, o api.Op, count uint64) bool {
	return count != 0 &&
		May(o) &&
		reg.May(r) &&
		table.May(t) &&
		(r.Kind != api.Live || len(r.Vars) == t.Vars)
}

// again is the reply to an operation whose client had this one, or a later one, done already; and whether it had.
func again(r api.Reg, o api.Op) (api.Reply, bool) {
	at := slices.IndexFunc(r.Done, func(d api.Done) bool { return d.Client == o.Client && d.Seq >= o.Seq })
	if at < 0 {
		return api.Reply{}, false
	}
	if r.Done[at].Seq > o.Seq {
		return api.Reply{Err: api.ErrOld}, true
	}
	reply := r.Done[at].Reply
	reply.Vars = slices.Clone(reply.Vars)
	return reply, true
}

// replyOf is the reply to an operation that came to this register and this error, in new memory.
func replyOf(r api.Reg, e api.Errno) api.Reply {
	if e != api.OK || r.Kind != api.Live {
		return api.Reply{Err: e}
	}
	return api.Reply{Inc: r.Inc, State: r.State, Vars: slices.Clone(r.Vars)}
}

// note makes an operation its client's last one; an absent register has no room for it.
func note(r *api.Reg, o api.Op, reply api.Reply) {
	if o.Client == 0 || r.Kind == api.Absent {
		return
	}
	d := api.Done{Client: o.Client, Seq: o.Seq, Reply: reply}
	r.Done = put(r.Done, d, func(d api.Done) uint8 { return d.Client })
}

// put puts a part into a list whose parts' numbers rise: over the one of its number, if there is one.
func put[T any](l []T, part T, number func(T) uint8) []T {
	at, there := slices.BinarySearchFunc(l, number(part), func(x T, n uint8) int {
		return cmp.Compare(number(x), n)
	})
	if !there {
		return slices.Insert(l, at, part)
	}
	l[at] = part
	return l
}

// do does an operation to a register.
func do(t api.Table, r *api.Reg, o api.Op, count uint64) api.Errno {
	switch o.Kind {
	case api.OpCreate:
		return create(r, t.Vars, count)
	case api.OpFire:
		return fire(t, r, o.Action, o.Party, o.Arg)
	case api.OpRead:
		return read(r)
	case api.OpDelete:
		return remove(r)
	case api.OpConsume:
		return consume(t, r, o)
	case api.OpClear:
		clearCell(r, o.Inc, o.Cell)
	}
	return api.OK
}

// create makes a register live, with so many variables; what was done and settled stays known.
func create(r *api.Reg, vars int, count uint64) api.Errno {
	if r.Kind == api.Live {
		return api.ErrThere
	}
	*r = api.Reg{Kind: api.Live, Inc: count, Vars: make([]int64, vars), Done: r.Done, Marks: r.Marks}
	return api.OK
}

// fire does what the contract says of a party's action.
func fire(t api.Table, r *api.Reg, action, party int, arg int64) api.Errno {
	if r.Kind != api.Live {
		return api.ErrAbsent
	}
	state, vars, cells, e := table.Fire(t, r.State, action, party, r.Vars, arg)
	if e != api.OK {
		return e
	}
	if !hasRoom(*r, len(cells)) {
		return api.ErrCells
	}
	r.State, r.Vars = state, vars
	for _, c := range cells {
		r.Last++
		c.N = r.Last
		r.Out = append(r.Out, c)
	}
	return api.OK
}

// hasRoom tells whether a register has room for so many cells more, and for their numbers.
func hasRoom(r api.Reg, more int) bool {
	// A Last that is higher already has no room for none either; the sum might wrap round.
	return len(r.Out)+more <= api.MaxCells && r.Last <= mostLast-uint64(more)
}

// read asks only whether a register is live.
func read(r *api.Reg) api.Errno {
	if r.Kind != api.Live {
		return api.ErrAbsent
	}
	return api.OK
}

// remove makes a register without cells a tombstone; what was done and settled stays known.
func remove(r *api.Reg) api.Errno {
	if r.Kind != api.Live {
		return api.ErrAbsent
	}
	if len(r.Out) > 0 {
		return api.ErrState
	}
	*r = api.Reg{Kind: api.Tomb, Inc: r.Inc, Done: r.Done, Marks: r.Marks}
	return api.OK
}

// consume settles a message in a live register, whether its action can be done or not.
func consume(t api.Table, r *api.Reg, o api.Op) api.Errno {
	if Settled(*r, o.Source, o.Inc, o.Cell) {
		return api.ErrDup
	}
	if r.Kind != api.Live {
		return api.ErrAbsent
	}
	e := fire(t, r, o.Action, worker, o.Arg)
	m := api.Mark{Source: o.Source, Inc: o.Inc, Cell: o.Cell}
	r.Marks = put(r.Marks, m, func(m api.Mark) uint8 { return m.Source })
	return e
}

// clearCell takes a cell of an incarnation away, if there is one; a register that isn't live has none.
func clearCell(r *api.Reg, inc, cell uint64) {
	r.Out = slices.DeleteFunc(r.Out, func(c api.Cell) bool { return r.Inc == inc && c.N == cell })
}
