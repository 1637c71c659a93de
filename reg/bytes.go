package reg

import (
	"math"

	"scrutineer/api"
	"scrutineer/pack"
)

// mostOther is the highest number that is taken of State, Action, Err and of how many.
const mostOther = 1000

// Put puts a register.
func Put(b []byte, r api.Reg) ([]byte, api.Errno) {
	if !May(r) {
		return nil, api.ErrForm
	}
	// This one copies b to new memory, so that nothing is put in the room behind the caller's.
	b = pack.PutNum(b, uint64(r.Kind))
	if r.Kind == api.Absent {
		return b, api.OK
	}
	b = putNums(b, r.Inc)
	b = putState(b, r.State, r.Vars)
	b = putDone(b, r.Done)
	b = putOut(b, r.Out)
	b = putNums(b, r.Last)
	return putMarks(b, r.Marks), api.OK
}

// putNums adds numbers.
func putNums(b []byte, numbers ...uint64) []byte {
	for _, n := range numbers {
		// Each one by itself, as all bytes ahead of it would be copied once more.
		b = append(b, pack.PutNum(nil, n)...)
	}
	return b
}

// putState adds a state and variables, a register's and a reply's.
func putState(b []byte, state int, vars []int64) []byte {
	b = putNums(b, uint64(state), uint64(len(vars)))
	for _, n := range vars {
		b = append(b, pack.PutInt(nil, n)...)
	}
	return b
}

// putDone adds a register's Done.
func putDone(b []byte, l []api.Done) []byte {
	b = putNums(b, uint64(len(l)))
	for _, d := range l {
		b = putNums(b, uint64(d.Client), d.Seq, uint64(d.Reply.Err), d.Reply.Inc)
		b = putState(b, d.Reply.State, d.Reply.Vars)
	}
	return b
}

// putOut adds a register's cells.
func putOut(b []byte, l []api.Cell) []byte {
	b = putNums(b, uint64(len(l)))
	for _, c := range l {
		b = putNums(b, c.N, uint64(c.Target), uint64(c.Action))
		b = append(b, pack.PutInt(nil, c.Arg)...)
	}
	return b
}

// putMarks adds a register's Marks.
func putMarks(b []byte, l []api.Mark) []byte {
	b = putNums(b, uint64(len(l)))
	for _, m := range l {
		b = putNums(b, uint64(m.Source), m.Inc, m.Cell)
	}
	return b
}

// taker takes a register's parts.
type taker struct{ *pack.Reader }

// Get takes a register.
func Get(p *pack.Reader) api.Reg {
	from := taker{p}
	r := from.reg()
	if from.failed() {
		return api.Reg{}
	}
	if !May(r) {
		from.Fail(api.ErrForm)
		return api.Reg{}
	}
	return r
}

// failed tells whether a number that was taken failed. ErrLong isn't asked: no number fails with it, it tells of bytes
// that are left, or of an error from before, with which each number is 0 anyhow.
func (from taker) failed() bool {
	e := from.End()
	return e != api.OK && e != api.ErrLong
}

// number takes a number without a limit.
func (from taker) number() uint64 {
	return from.Num(math.MaxUint64)
}

// other takes a State, an Action or an Err.
func (from taker) other() int {
	return int(from.Num(mostOther))
}

// small takes a number that has room in a byte.
func (from taker) small() uint8 {
	return uint8(from.Num(math.MaxUint8))
}

// many takes how many parts there are, and each of them. With an error there are none any more.
func many[T any](from taker, part func() T) []T {
	var l []T
	for range from.other() {
		l = append(l, part())
	}
	return l
}

// reg takes a register, which may be or not.
func (from taker) reg() api.Reg {
	r := api.Reg{Kind: from.small()}
	if r.Kind == api.Absent {
		return r
	}
	r.Inc = from.number()
	r.State = from.other()
	r.Vars = many(from, from.Int)
	r.Done = many(from, from.done)
	r.Out = many(from, from.cell)
	r.Last = from.number()
	r.Marks = many(from, from.mark)
	return r
}

// done takes an entry of Done.
func (from taker) done() api.Done {
	return api.Done{Client: from.small(), Seq: from.number(), Reply: from.reply()}
}

// reply takes a reply.
func (from taker) reply() api.Reply {
	return api.Reply{
		Err:   api.Errno(from.other()),
		Inc:   from.number(),
		State: from.other(),
		Vars:  many(from, from.Int),
	}
}

// cell takes a cell.
func (from taker) cell() api.Cell {
	return api.Cell{N: from.number(), Target: from.small(), Action: from.other(), Arg: from.Int()}
}

// mark takes a Mark.
func (from taker) mark() api.Mark {
	return api.Mark{Source: from.small(), Inc: from.number(), Cell: from.number()}
}
