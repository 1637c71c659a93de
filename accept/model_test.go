package accept_test

import (
	"cmp"
	"fmt"
	"math"
	"math/rand"
	"slices"
	"testing"

	"scrutineer/accept"
	"scrutineer/api"
	"scrutineer/conf"
	"scrutineer/msg"
	"scrutineer/record"
	"scrutineer/sector"
	"scrutineer/store"
)

// wanted is what the chapter asks of a deed: which records are put, one behind the other, and what is answered, when all of
// them are.
type wanted struct {
	recs []api.Rec
	m    api.Msg
	e    api.Errno
}

// stands tells how a ballot stands to another one.
func stands(a, b api.Ballot) int {
	return cmp.Or(cmp.Compare(a.Count, b.Count), cmp.Compare(a.Node, b.Node), cmp.Compare(a.Life, b.Life))
}

// wants is what is asked of a deed by an acceptor that knows this.
func wants(x api.State, d deed) wanted {
	switch d.name {
	case "Answer":
		return wantsAnswer(x, d.node, d.m)
	case "Erase":
		return wantsErase(x, d.key, d.b)
	case "Adopt":
		return wantsAdopt(x, d.node, d.c, d.fence)
	}
	return wanted{recs: []api.Rec{d.rec}}
}

// wantsAnswer is what is asked of a message.
func wantsAnswer(x api.State, node uint8, m api.Msg) wanted {
	asks := m.Kind == api.MsgPrepare || m.Kind == api.MsgAccept
	if !asks || !msg.May(m) || m.To != node {
		return wanted{e: api.ErrArg}
	}
	had := x.Slots[m.Key]
	no := refused(m, x.Conf.C, 0)
	yes := no
	yes.OK = true
	switch {
	case m.Conf != x.Conf.C:
		return wanted{m: no}
	case !had.Has && m.B.Count <= x.Fence:
		no.Max = x.Fence
		return wanted{m: no}
	case m.Kind == api.MsgAccept && had.Has && had.Acc == m.B:
		return wanted{m: yes}
	case had.Has && stands(m.B, had.Promise) < 0, had.Has && m.Kind == api.MsgPrepare && stands(m.B, had.Acc) <= 0:
		no.Max = max(had.Promise.Count, had.Acc.Count)
		return wanted{m: no}
	case m.Kind == api.MsgPrepare:
		yes.Acc, yes.Reg = had.Acc, had.Reg
		return wanted{recs: []api.Rec{slot(m.Key, m.B, had.Acc, had.Reg)}, m: yes}
	case m.Next == api.Ballot{}:
		return wanted{recs: []api.Rec{slot(m.Key, m.B, m.B, m.Reg)}, m: yes}
	}
	return wanted{recs: []api.Rec{slot(m.Key, m.Next, m.B, m.Reg)}, m: yes}
}

// wantsErase is what is asked of a key that is to be erased.
func wantsErase(x api.State, key uint8, b api.Ballot) wanted {
	if int(key) >= len(x.Slots) {
		return wanted{e: api.ErrArg}
	}
	had := x.Slots[key]
	if !had.Has {
		return wanted{}
	}
	if had.Acc != b || had.Reg.Kind == api.Live {
		return wanted{e: api.ErrState}
	}
	return wanted{recs: append(fences(x.Fence, b.Count, had.Promise.Count), gone(key))}
}

// fences are the fences that are put, so that one that is so high is none of these counts any more.
func fences(high uint64, counts ...uint64) []api.Rec {
	if n := slices.Max(counts); n > high {
		return []api.Rec{fence(n)}
	}
	return nil
}

// wantsAdopt is what is asked of a configuration that is to be adopted.
func wantsAdopt(x api.State, node uint8, c api.Conf, high uint64) wanted {
	own := x.Conf
	isFirst := len(own.New) == 0
	// One that may be is the step of another one, if its number is, and those nodes that stay.
	isStep := own.C < 1<<63 && c.C == own.C+1
	if own.C%2 == 0 {
		isStep = isStep && slices.Equal(c.Old, own.New)
	} else {
		isStep = isStep && slices.Equal(c.New, own.New)
	}
	isSame := c.C == own.C && slices.Equal(c.Old, own.Old) && slices.Equal(c.New, own.New)
	switch {
	case !conf.May(c):
		return wanted{e: api.ErrArg}
	case isFirst:
		return wanted{recs: append(fences(x.Fence, high), agreed(c))}
	case isSame:
		return wanted{}
	case !isStep:
		return wanted{e: api.ErrArg}
	}
	var l []api.Rec
	for key, had := range x.Slots {
		isKeeper := slices.Contains(conf.Keepers(stable(0, c.Old...), uint8(key)), node)
		if c.C%2 == 1 && had.Has && !isKeeper {
			l = append(l, fences(x.Fence, had.Promise.Count)...)
			l = append(l, gone(uint8(key)))
			x.Fence = max(x.Fence, had.Promise.Count)
		}
	}
	return wanted{recs: slices.Concat(l, fences(x.Fence, high), []api.Rec{agreed(c)})}
}

// bench is a disk, and the store on it, which is an acceptor's, or that of a model: its deeds are the records that the
// chapter asks for.
type bench struct {
	d       *sector.Disk
	s       *store.Store
	isModel bool
}

// newBench is a bench with a new disk.
func newBench(t *testing.T, size, count int, isModel bool) *bench {
	t.Helper()
	d, e := sector.New(size, count)
	must(t, "New", e, api.OK)
	return &bench{d: d, s: opened(t, d), isModel: isModel}
}

// ask lets a deed be done.
func (b *bench) ask(x deed) (api.Msg, api.Errno) {
	var e api.Errno
	switch x.name {
	case "Open":
		b.s, e = store.Open(b.d)
	case "Fuse":
		b.d.Fuse(x.i)
	case "Fall":
		b.d.Fall()
	case "Back":
		b.d.Back(x.i, x.torn)
	default:
		if b.isModel {
			return b.obey(x)
		}
		return do(b.s, x)
	}
	return api.Msg{}, e
}

// obey does what is asked of a deed.
func (b *bench) obey(x deed) (api.Msg, api.Errno) {
	if b.s == nil {
		return api.Msg{}, api.ErrArg
	}
	want := wants(b.s.State(), x)
	for _, r := range want.recs {
		if e := b.s.Put(r); e != api.OK {
			return api.Msg{}, e
		}
	}
	return want.m, want.e
}

// pair are an acceptor and its model, each on a disk of its own, and what was done to both.
type pair struct {
	got, want *bench
	row       []deed
}

// newPair is a pair with new disks.
func newPair(t *testing.T, size, count int) *pair {
	t.Helper()
	return &pair{got: newBench(t, size, count, false), want: newBench(t, size, count, true)}
}

// ask holds that a deed is answered as the model answers it, and that then as much is known.
func (p *pair) ask(t *testing.T, x deed) {
	t.Helper()
	p.row = append(p.row, x)
	m, e := p.got.ask(x)
	n, f := p.want.ask(x)
	if !msg.Same(m, n) || e != f {
		t.Fatalf("P16.1: the last of %v: %v, %v, not %v, %v", p.row, m, e, n, f)
	}
	if a, b := p.got.s.State(), p.want.s.State(); !record.Same(a, b) {
		t.Fatalf("P16.1: behind %v %v is known, not %v", p.row, a, b)
	}
}

// holdAlike holds that the acceptor did the same to its disk as the model.
func (p *pair) holdAlike(t *testing.T) {
	t.Helper()
	for range 2 {
		if x, y := stand(p.got.d), stand(p.want.d); x != y {
			t.Fatalf("P16.1: behind %v the disk is\n%s\nnot\n%s", p.row, x, y)
		}
		// What waits isn't seen while a disk is down.
		keep := (p.got.d.Waits() + 1) / 2
		p.got.d.Back(keep, len(p.row)%2 == 0)
		p.want.d.Back(keep, len(p.row)%2 == 0)
	}
}

// five are the nodes 0 to 4, under the number 4: of these the node 2 keeps the key 1, and doesn't keep the key 3.
func five() api.Conf {
	return stable(4, 0, 1, 2, 3, 4)
}

// six is what comes behind five: between them and these with the node 5.
func six() api.Conf {
	return api.Conf{C: 5, Old: []uint8{0, 1, 2, 3, 4}, New: []uint8{0, 1, 2, 3, 4, 5}}
}

func TestFiveKeepAsThisIsSaid(t *testing.T) {
	if a, b := conf.Keepers(five(), 1), conf.Keepers(five(), 3); !slices.Contains(a, 2) || slices.Contains(b, 2) {
		t.Fatalf("the keepers of 1 and 3: %v, %v", a, b)
	}
}

func TestAllShortRows(t *testing.T) {
	none := api.Ballot{}
	some := []deed{
		answer(prepare(2, 3, 0, under(5, 1, 0))),
		answer(prepare(2, 3, 0, under(5, 2, 0))),
		answer(prepare(2, 3, 4, under(7, 1, 0))),
		answer(prepare(2, 3, 5, under(6, 3, 1))),
		answer(write(2, 3, 0, under(5, 1, 0), tomb(), none)),
		answer(write(2, 3, 0, under(5, 1, 0), tomb(), under(6, 1, 0))),
		answer(write(2, 3, 4, under(6, 1, 0), api.Reg{}, none)),
		answer(write(2, 3, 4, under(7, 1, 0), plain(), none)),
		erase(3, under(5, 1, 0)),
		erase(3, under(6, 1, 0)),
		adopt(2, five(), 0),
		adopt(2, six(), 6),
		put(promised(1, under(9, 1, 0))),
		{name: "Fuse", i: 4},
		{name: "Back", i: 1, torn: true},
		{name: "Open"},
	}
	var extend func(row []deed, left int)
	extend = func(row []deed, left int) {
		if left == 0 {
			// Areas of four sectors, which few records fill.
			p := newPair(t, 64, 10)
			for _, x := range row {
				p.ask(t, x)
			}
			p.holdAlike(t)
			return
		}
		for _, x := range some {
			extend(append(row, x), left-1)
		}
	}
	extend(make([]deed, 0, 4), 4)
}

// randomBallot is some ballot that stands close to those that are known of a key, and to the fence.
func randomBallot(rnd *rand.Rand, x api.State, key uint8) api.Ballot {
	b := under(uint64(rnd.Intn(300)), uint8(rnd.Intn(4)), uint32(rnd.Intn(3)))
	had := x.Slots[key%api.MaxKeys]
	switch rnd.Intn(8) {
	case 0, 1:
		b = had.Promise
	case 2:
		b = had.Acc
	case 3:
		b.Count = x.Fence
	case 4:
		b.Count = x.Fence + 1
	case 5, 6:
		b.Count = max(had.Promise.Count, x.Fence) + uint64(rnd.Intn(3))
	}
	switch rnd.Intn(12) {
	case 0:
		b.Count--
	case 1:
		b.Node--
	case 2:
		b.Life--
	case 3:
		b.Life++
	}
	return b
}

// randomReg is some register.
func randomReg(rnd *rand.Rand) api.Reg {
	switch rnd.Intn(9) {
	case 0, 1:
		return plain()
	case 2, 3, 4:
		return api.Reg{Kind: api.Tomb, Inc: uint64(rnd.Intn(300))}
	case 5, 6:
		return tomb()
	case 7:
		return api.Reg{Kind: uint8(rnd.Intn(4)), State: rnd.Intn(40)}
	}
	return api.Reg{}
}

// randomKey is some key, more often than not one of two.
func randomKey(rnd *rand.Rand) uint8 {
	if n := rnd.Intn(20); n < 16 {
		return 1 + 2*uint8(n%2)
	}
	return uint8(rnd.Intn(api.MaxKeys + 1))
}

// randomMsg is some message to a node that knows this, mostly one that asks, and of its own configuration's number.
func randomMsg(rnd *rand.Rand, x api.State, node uint8) api.Msg {
	key := randomKey(rnd)
	b := randomBallot(rnd, x, key)
	m := prepare(node, key, x.Conf.C, b)
	if rnd.Intn(2) == 0 {
		m = write(node, key, x.Conf.C, b, randomReg(rnd), api.Ballot{})
		if rnd.Intn(2) == 0 {
			m.Next = under(b.Count+uint64(rnd.Intn(3)), b.Node, b.Life)
		}
	}
	m.From = uint8(rnd.Intn(6))
	switch rnd.Intn(40) {
	case 0:
		m.Kind = uint8(rnd.Intn(6))
	case 1:
		m.To = uint8(rnd.Intn(256))
	case 2:
		m.OK = true
	case 3:
		m.Max = 1
	case 4, 5, 6:
		m.Conf = uint64(rnd.Intn(8))
	case 7:
		m.Acc = b
	case 8:
		m.From = 64
	}
	return m
}

// randomConf is some configuration, mostly the step of that which is known.
func randomConf(rnd *rand.Rand, x api.State) api.Conf {
	c, e := conf.Step(x.Conf, uint8(rnd.Intn(7)))
	if e != api.OK || rnd.Intn(8) == 0 {
		c = stable(uint64(2*rnd.Intn(4)), 0, 1, 2, uint8(3+rnd.Intn(5)))
	}
	switch rnd.Intn(20) {
	case 0:
		c.C += uint64(rnd.Intn(3))
	case 1:
		c.New = append(slices.Clone(c.New), uint8(rnd.Intn(66)))
	case 2:
		c = x.Conf
	case 3:
		c.New = c.New[:len(c.New)/2]
	case 4:
		c.Old = slices.Clone(c.New)
	case 5:
		c = x.Conf
		c.C = c.C / 2 * 2
		c.Old = nil
	}
	return c
}

// randomDeed is some deed of an acceptor that knows this.
func randomDeed(rnd *rand.Rand, x api.State, node uint8) deed {
	switch n := rnd.Intn(100); {
	case n < 62:
		return deed{name: "Answer", node: node, m: randomMsg(rnd, x, node)}
	case n < 72:
		key := randomKey(rnd)
		b := x.Slots[key%api.MaxKeys].Acc
		if rnd.Intn(3) == 0 {
			b = randomBallot(rnd, x, key)
		}
		return erase(key, b)
	case n < 84:
		return adopt(node, randomConf(rnd, x), x.Fence+uint64(rnd.Intn(5))-2)
	case n < 86:
		return put(life(uint32(1 + rnd.Intn(9))))
	case n < 90:
		return deed{name: "Fuse", i: rnd.Intn(40)}
	case n < 91:
		return deed{name: "Fall"}
	case n < 98:
		return deed{name: "Back", i: rnd.Intn(9), torn: rnd.Intn(2) == 0}
	}
	return deed{name: "Open"}
}

func TestRandomRows(t *testing.T) {
	rnd := rand.New(rand.NewSource(1))
	for i := range 1500 {
		size, count := 64+rnd.Intn(449), 6+rnd.Intn(60)
		if i%2 == 0 {
			size = 64
		}
		p, node := newPair(t, size, count), uint8(rnd.Intn(6))
		for range rnd.Intn(100) {
			x := randomDeed(rnd, p.want.s.State(), node)
			p.ask(t, x)
			if x.name == "Back" && rnd.Intn(6) > 0 {
				p.ask(t, deed{name: "Open"})
			}
		}
		p.holdAlike(t)
	}
}

// edges are ballots of counts, nodes and lives at their edges, none among them.
func edges() []api.Ballot {
	var l []api.Ballot
	for _, n := range []uint64{0, 1, 2, 127, 128, 1 << 63, math.MaxUint64 - 1, math.MaxUint64} {
		for _, node := range []uint8{0, 1, 255} {
			for _, life := range []uint32{0, 1, math.MaxUint32} {
				l = append(l, under(n, node, life))
			}
		}
	}
	return l
}

func TestAllBallotsAtTheirEdges(t *testing.T) {
	// Each ballot that is asked for meets each pair of ballots that may be promised and accepted.
	var all []api.State
	for _, p := range edges() {
		for _, a := range edges() {
			if p == (api.Ballot{}) || stands(a, p) > 0 {
				continue
			}
			r := api.Reg{Kind: api.Tomb, Inc: 8}
			if a == (api.Ballot{}) {
				r = api.Reg{}
			}
			all = append(all, record.Fold(api.State{}, slot(3, p, a, r)))
		}
	}
	for _, n := range []uint64{1, 2, 127, 128, 1 << 63, math.MaxUint64 - 1, math.MaxUint64} {
		all = append(all, record.Fold(api.State{}, fence(n)))
	}
	for i, x := range all {
		for j, b := range edges() {
			// Of those that stand far from each other some are enough.
			if (i+j)%9 > 0 && b != x.Slots[3].Promise && b != x.Slots[3].Acc {
				continue
			}
			for _, d := range []deed{answer(prepare(2, 3, 0, b)), answer(write(2, 3, 0, b, api.Reg{Kind: api.Tomb}, api.Ballot{})), erase(3, b)} {
				holdAt(t, x, d)
			}
		}
	}
}

// holdAt holds that an acceptor that knows this does a deed as the chapter asks.
func holdAt(t *testing.T, x api.State, d deed) {
	t.Helper()
	disk, s := made(t, 120, record.All(x)...)
	were := recordsOf(t, disk)
	want := wants(x, d)
	what := fmt.Sprintf("P16.1: %v of one that knows %v", d, x)
	m, e := do(s, d)
	if !msg.Same(m, want.m) || e != want.e {
		t.Fatalf("%s: %v, %v, not %v, %v", what, m, e, want.m, want.e)
	}
	holdPut(t, what, disk, were, want.recs...)
}

// next is some node that isn't among those of a configuration, and one that is.
func next(c api.Conf) (uint8, uint8) {
	for n := range uint8(api.MaxNodes) {
		if !slices.Contains(c.New, n) {
			return n, c.New[len(c.New)-1]
		}
	}
	return 0, c.New[0]
}

func TestEachStepOfEachSizeIsAdopted(t *testing.T) {
	var nodes []uint8
	for n := range uint8(api.MaxNodes) {
		nodes = append(nodes, n)
		own := stable(uint64(2*n), nodes...)
		x := record.Fold(api.State{}, agreed(own))
		for key := range uint8(api.MaxKeys) {
			x = record.Fold(x, promised(key, under(uint64(key^5)+1, 1, 0)))
		}
		other, among := next(own)
		for _, by := range []uint8{other, among} {
			c, e := conf.Step(own, by)
			if e != api.OK {
				continue
			}
			for _, node := range []uint8{among, other, 64, 255} {
				holdAt(t, x, adopt(node, c, uint64(node)))
				holdAt(t, record.Fold(x, agreed(c)), adopt(node, c, 99))
			}
			last, e := conf.Step(c, 0)
			must(t, "Step", e, api.OK)
			holdAt(t, record.Fold(x, agreed(c)), adopt(among, last, 5))
			holdAt(t, x, adopt(among, last, 5))
		}
	}
}

func TestNoStoreIsModelled(t *testing.T) {
	// What the rows above leave out: a store that isn't there.
	b := bench{isModel: true}
	for _, d := range []deed{answer(prepare(2, 3, 0, under(5, 1, 0))), erase(3, under(5, 1, 0)), adopt(2, five(), 0)} {
		if _, e := b.ask(d); e != api.ErrArg {
			t.Errorf("the model: %v: %v", d, e)
		}
	}
	_, e := accept.Answer(nil, 2, prepare(2, 3, 0, under(5, 1, 0)))
	must(t, "P16.1: Answer of no store", e, api.ErrArg)
	must(t, "P16.1: Erase of no store", accept.Erase(nil, 3, under(5, 1, 0)), api.ErrArg)
	must(t, "P16.1: Adopt of no store", accept.Adopt(nil, 2, five(), 0), api.ErrArg)
}
