package accept_test

import (
	"bytes"
	"fmt"
	"math"
	"slices"
	"testing"

	"scrutineer/accept"
	"scrutineer/api"
	"scrutineer/journal"
	"scrutineer/record"
	"scrutineer/sector"
	"scrutineer/store"
)

// must holds that a call is answered so.
func must(t *testing.T, what string, got, want api.Errno) {
	t.Helper()
	if got != want {
		t.Fatalf("%s: %v, not %v", what, got, want)
	}
}

// made is a new disk with sectors of 64 bytes, and the store on it, into which records were put.
func made(t *testing.T, count int, l ...api.Rec) (*sector.Disk, *store.Store) {
	t.Helper()
	d, e := sector.New(64, count)
	must(t, "New", e, api.OK)
	s, e := store.Open(d)
	must(t, "Open", e, api.OK)
	for _, r := range l {
		must(t, fmt.Sprintf("Put of %v", r), s.Put(r), api.OK)
	}
	return d, s
}

// opened is the store on a disk.
func opened(t *testing.T, d *sector.Disk) *store.Store {
	t.Helper()
	s, e := store.Open(d)
	must(t, "Open", e, api.OK)
	return s
}

// recordsOf are the records of a disk's journal.
func recordsOf(t *testing.T, d *sector.Disk) []api.Rec {
	t.Helper()
	_, rows, e := journal.Open(d)
	must(t, "a journal's Open", e, api.OK)
	var l []api.Rec
	for _, b := range rows {
		r, e := record.Get(b)
		must(t, "a record's Get", e, api.OK)
		l = append(l, r)
	}
	return l
}

// bytesOf are a record's bytes.
func bytesOf(r api.Rec) []byte {
	b, e := record.Put(r)
	if e != api.OK {
		panic(fmt.Sprintf("a record that may not be: %v", r))
	}
	return b
}

// holdPut holds that since then these records were put, and no more.
func holdPut(t *testing.T, what string, d *sector.Disk, were []api.Rec, want ...api.Rec) {
	t.Helper()
	got, want := recordsOf(t, d), slices.Concat(were, want)
	same := func(a, b api.Rec) bool { return bytes.Equal(bytesOf(a), bytesOf(b)) }
	if !slices.EqualFunc(got, want, same) {
		t.Fatalf("%s: the journal has %v, not %v", what, got, want)
	}
}

// holdKnows holds that a store knows this.
func holdKnows(t *testing.T, what string, s *store.Store, want api.State) {
	t.Helper()
	if got := s.State(); !record.Same(got, want) {
		t.Fatalf("%s: %v is known, not %v", what, got, want)
	}
}

// under is a ballot.
func under(count uint64, node uint8, life uint32) api.Ballot {
	return api.Ballot{Count: count, Node: node, Life: life}
}

// slot is a record of what was promised of a key, and accepted.
func slot(key uint8, promise, acc api.Ballot, r api.Reg) api.Rec {
	return api.Rec{Kind: api.RecSlot, Key: key, Promise: promise, Acc: acc, Reg: r}
}

// promised is a record of a key of which nothing was accepted.
func promised(key uint8, b api.Ballot) api.Rec {
	return slot(key, b, api.Ballot{}, api.Reg{})
}

// gone is a record of a key that is had no more.
func gone(key uint8) api.Rec {
	return api.Rec{Kind: api.RecGone, Key: key}
}

// fence is a record of a fence.
func fence(n uint64) api.Rec {
	return api.Rec{Kind: api.RecFence, Fence: n}
}

// life is a record of a life.
func life(n uint32) api.Rec {
	return api.Rec{Kind: api.RecLife, Life: n}
}

// agreed is a record of a configuration.
func agreed(c api.Conf) api.Rec {
	return api.Rec{Kind: api.RecConf, Conf: c}
}

// stable is a configuration with an even number.
func stable(c uint64, nodes ...uint8) api.Conf {
	return api.Conf{C: c, New: nodes}
}

// prepare is a message that asks a node for a promise.
func prepare(to, key uint8, c uint64, b api.Ballot) api.Msg {
	return api.Msg{Kind: api.MsgPrepare, From: 9, To: to, Key: key, Conf: c, B: b}
}

// write is a message that asks a node to accept a register.
func write(to, key uint8, c uint64, b api.Ballot, r api.Reg, next api.Ballot) api.Msg {
	return api.Msg{Kind: api.MsgAccept, From: 9, To: to, Key: key, Conf: c, B: b, Reg: r, Next: next}
}

// promise is the answer to a prepare that was agreed to.
func promise(from, key uint8, c uint64, b, acc api.Ballot, r api.Reg) api.Msg {
	return api.Msg{Kind: api.MsgPromise, From: from, To: 9, Key: key, Conf: c, B: b, OK: true, Acc: acc, Reg: r}
}

// accepted is the answer to an accept that was agreed to.
func accepted(from, key uint8, c uint64, b api.Ballot) api.Msg {
	return api.Msg{Kind: api.MsgAccepted, From: from, To: 9, Key: key, Conf: c, B: b, OK: true}
}

// refused is the answer to a message that was refused.
func refused(m api.Msg, c, most uint64) api.Msg {
	// Of each kind that asks, the one that answers is the next one.
	return api.Msg{Kind: m.Kind + 1, From: m.To, To: m.From, Key: m.Key, Conf: c, B: m.B, Max: most}
}

// plain is a register with some of all that it may have, and no number of it 0.
func plain() api.Reg {
	return api.Reg{
		Kind: api.Live, Inc: 3, State: 2, Vars: []int64{7, -1, math.MinInt64, math.MaxInt64},
		Done:  []api.Done{{Client: 2, Seq: 9, Reply: api.Reply{Err: api.ErrGuard, Inc: 3, State: 1, Vars: []int64{5}}}},
		Out:   []api.Cell{{N: 4, Target: 15, Action: 31, Arg: -300}},
		Last:  6,
		Marks: []api.Mark{{Source: 1, Inc: 2, Cell: 300}},
	}
}

// tomb is a tombstone.
func tomb() api.Reg {
	return api.Reg{Kind: api.Tomb, Inc: 8, Done: []api.Done{{Client: 8, Seq: 1}}, Last: 5, Marks: []api.Mark{{Source: 15, Inc: 1, Cell: 1}}}
}

// largest is a register whose bytes are the most that there can be.
func largest() api.Reg {
	full := func() []int64 { return slices.Repeat([]int64{math.MinInt64, math.MaxInt64}, 4) }
	r := api.Reg{Kind: api.Live, Inc: math.MaxUint64, State: 31, Vars: full(), Last: math.MaxUint64}
	for i := range uint8(8) {
		reply := api.Reply{Err: 99, Inc: math.MaxUint64, State: 31, Vars: full()}
		r.Done = append(r.Done, api.Done{Client: i + 1, Seq: math.MaxUint64, Reply: reply})
		r.Out = append(r.Out, api.Cell{N: math.MaxUint64 - 7 + uint64(i), Target: 15, Action: 31, Arg: math.MinInt64})
	}
	for i := range uint8(16) {
		r.Marks = append(r.Marks, api.Mark{Source: i, Inc: math.MaxUint64, Cell: math.MaxUint64})
	}
	return r
}

// stand is all that can be seen of a disk.
func stand(d *sector.Disk) string {
	s := fmt.Sprintf("on %v, falls %d, waits %d", d.IsOn(), d.Falls(), d.Waits())
	for i := range d.Count() {
		b, e := d.Read(i)
		s += fmt.Sprintf("\n%d: %x %v", i, bytes.TrimRight(b, "\x00"), e)
	}
	return s
}

// deed is a call that is told to an acceptor: a message that is answered, a key that is erased, a configuration that is
// adopted; or what befalls its store, and its disk.
type deed struct {
	name  string
	node  uint8
	m     api.Msg
	key   uint8
	b     api.Ballot
	c     api.Conf
	fence uint64
	rec   api.Rec
	i     int
	torn  bool
}

// String tells a deed.
func (x deed) String() string {
	switch x.name {
	case "Answer":
		return fmt.Sprintf("Answer(%d, %v)", x.node, x.m)
	case "Erase":
		return fmt.Sprintf("Erase(%d, %v)", x.key, x.b)
	case "Adopt":
		return fmt.Sprintf("Adopt(%d, %v, %d)", x.node, x.c, x.fence)
	case "Put":
		return fmt.Sprintf("Put(%v)", x.rec)
	}
	return fmt.Sprintf("%s(%d %v)", x.name, x.i, x.torn)
}

// answer is a message that is answered by the node that it is to.
func answer(m api.Msg) deed {
	return deed{name: "Answer", node: m.To, m: m}
}

// erase is a key that is erased.
func erase(key uint8, b api.Ballot) deed {
	return deed{name: "Erase", key: key, b: b}
}

// adopt is a configuration that is adopted.
func adopt(node uint8, c api.Conf, fence uint64) deed {
	return deed{name: "Adopt", node: node, c: c, fence: fence}
}

// put is a record that is put past the acceptor.
func put(r api.Rec) deed {
	return deed{name: "Put", rec: r}
}

// do lets an acceptor do a deed.
func do(s *store.Store, x deed) (api.Msg, api.Errno) {
	switch x.name {
	case "Answer":
		return accept.Answer(s, x.node, x.m)
	case "Erase":
		return api.Msg{}, accept.Erase(s, x.key, x.b)
	case "Adopt":
		return api.Msg{}, accept.Adopt(s, x.node, x.c, x.fence)
	}
	return api.Msg{}, s.Put(x.rec)
}
