package table

import (
	"math"

	"scrutineer/api"
	"scrutineer/pack"
)

// mostOther is the highest number that is taken, of those that have no limit of their own in a contract's bytes.
const mostOther = 1000

// Put is a contract's bytes.
func Put(t api.Table) ([]byte, api.Errno) {
	if !May(t) {
		return nil, api.ErrTable
	}
	b := putNums(nil, t.States, t.Vars, len(t.Rules))
	for _, r := range t.Rules {
		b = putRule(b, r)
	}
	return b, api.OK
}

// putNums adds numbers, none of them below 0.
func putNums(b []byte, numbers ...int) []byte {
	for _, n := range numbers {
		// Each one by itself, as all bytes ahead of it would be copied once more.
		b = append(b, pack.PutNum(nil, uint64(n))...)
	}
	return b
}

// putRule adds a rule.
func putRule(b []byte, r api.Rule) []byte {
	b = putNums(b, r.From, r.Action, r.Party, r.To)
	b = putFormula(b, r.Guard)
	b = putNums(b, len(r.Sets))
	for _, s := range r.Sets {
		b = putFormula(putNums(b, s.Var), s.Value)
	}
	b = putNums(b, len(r.Emits))
	for _, m := range r.Emits {
		b = putFormula(putNums(b, int(m.Target), m.Action), m.Arg)
	}
	return b
}

// putFormula adds a formula.
func putFormula(b []byte, l []api.Tok) []byte {
	b = putNums(b, len(l))
	for _, t := range l {
		b = append(putNums(b, int(t.Op)), pack.PutInt(nil, t.N)...)
	}
	return b
}

// taker takes a contract's parts.
type taker struct{ *pack.Reader }

// Get is the contract of bytes.
func Get(b []byte) (api.Table, api.Errno) {
	from := taker{pack.New(b)}
	t := from.table()
	if e := from.End(); e != api.OK {
		return api.Table{}, e
	}
	if !May(t) {
		return api.Table{}, api.ErrTable
	}
	return t, api.OK
}

// other takes a number that has no limit of its own.
func (from taker) other() int {
	return int(from.Num(mostOther))
}

// small takes a number that has room in a byte.
func (from taker) small() uint8 {
	return uint8(from.Num(math.MaxUint8))
}

// many takes how many parts there are, and each of them. With an error there are none any more.
func many[T any](from taker, most uint64, part func() T) []T {
	var l []T
	for range from.Num(most) {
		l = append(l, part())
	}
	return l
}

// table takes a contract.
func (from taker) table() api.Table {
	t := api.Table{States: from.other(), Vars: from.other()}
	t.Rules = many(from, api.MaxRules, from.rule)
	return t
}

// rule takes a rule.
func (from taker) rule() api.Rule {
	r := api.Rule{From: from.other(), Action: from.other(), Party: from.other(), To: from.other()}
	r.Guard = from.formula()
	r.Sets = many(from, api.MaxSets, from.set)
	r.Emits = many(from, api.MaxEmits, from.emit)
	return r
}

// set takes a Set.
func (from taker) set() api.Set {
	return api.Set{Var: from.other(), Value: from.formula()}
}

// emit takes an Emit.
func (from taker) emit() api.Emit {
	return api.Emit{Target: from.small(), Action: from.other(), Arg: from.formula()}
}

// formula takes a formula.
func (from taker) formula() []api.Tok {
	return many(from, api.MaxToks, func() api.Tok {
		return api.Tok{Op: from.small(), N: from.Int()}
	})
}
