package round_test

import (
	"fmt"
	"math/rand"
	"slices"
	"testing"

	"scrutineer/accept"
	"scrutineer/api"
	"scrutineer/ballot"
	"scrutineer/conf"
	"scrutineer/reg"
	"scrutineer/round"
	"scrutineer/sector"
	"scrutineer/store"
)

// one is a round, whether it asked, what it heard, and whether it was agreed.
type one struct {
	x                      api.Round
	asked, heard, isAgreed bool
	acc                    api.Ballot
}

// world are acceptors, the rounds of one key under one configuration, and the messages that are on their way.
type world struct {
	t      *testing.T
	c      api.Conf
	key    uint8
	stores map[uint8]*store.Store
	rounds []*one
	flies  []api.Msg
	row    []string
}

// newWorld is a world in which nothing was asked yet.
func newWorld(t *testing.T, c api.Conf, key uint8) *world {
	t.Helper()
	w := &world{t: t, c: c, key: key, stores: map[uint8]*store.Store{}}
	for _, n := range conf.Keepers(c, key) {
		d, e := sector.New(api.MaxSector, 12)
		if e != api.OK {
			t.Fatal("New:", e)
		}
		s, e := store.Open(d)
		if e != api.OK {
			t.Fatal("Open:", e)
		}
		if e := accept.Adopt(s, n, c, 0); e != api.OK {
			t.Fatal("Adopt:", e)
		}
		w.stores[n] = s
	}
	return w
}

// written is the register that is written under a ballot.
func written(b api.Ballot) api.Reg {
	return api.Reg{Kind: api.Live, Inc: b.Count, Vars: []int64{int64(b.Node), int64(b.Life)}}
}

// begin begins a round that asks.
func (w *world) begin(b api.Ballot, all bool) {
	w.t.Helper()
	x := asking(w.t, w.c, w.key, b, all)
	w.rounds = append(w.rounds, &one{x: x, asked: true})
	w.ask(x)
}

// goOn begins a round at the ballot that was promised along to another one, which knows what that wrote.
func (w *world) goOn(next api.Ballot, r api.Reg) {
	w.t.Helper()
	x, e := round.Known(w.c, w.key, next, r, false)
	o := &one{x: must(w.t, x, e)}
	w.rounds = append(w.rounds, o)
	w.write(o, b0)
}

// ask puts a round's messages on their way.
func (w *world) ask(x api.Round) {
	w.row = append(w.row, fmt.Sprintf("ask %v", x.B))
	w.flies = append(w.flies, round.Ask(x)...)
}

// give gives a message to whom it is.
func (w *world) give(m api.Msg) {
	w.t.Helper()
	w.row = append(w.row, fmt.Sprintf("give %d %d>%d %v %v", m.Kind, m.From, m.To, m.B, m.OK))
	if m.Kind == api.MsgPrepare || m.Kind == api.MsgAccept {
		a, e := accept.Answer(w.stores[m.To], m.To, m)
		if e != api.OK {
			w.t.Fatalf("an acceptor doesn't answer %v: %v", m, e)
		}
		w.flies = append(w.flies, a)
		return
	}
	for _, o := range w.rounds {
		o.x = round.Told(o.x, m)
		switch {
		case o.x.Phase == api.Heard:
			w.hear(o)
		case o.x.Phase == api.Agreed && !o.isAgreed:
			o.isAgreed = true
			if !ballot.None(o.x.Next) {
				w.goOn(o.x.Next, o.x.Reg)
			}
		}
	}
}

// hear holds that what a round heard is what was written there, and lets it write.
func (w *world) hear(o *one) {
	w.t.Helper()
	o.heard, o.acc = true, o.x.Acc
	want := api.Reg{}
	if o.acc != b0 {
		want = written(o.acc)
	}
	if !reg.Same(o.x.Reg, want) {
		w.t.Fatalf("P17.2: %v heard %v of %v: %v", o.x.B, o.x.Reg, o.acc, w.row)
	}
	next := b0
	if o.x.B.Count%3 == 0 {
		next = under(o.x.B.Count+1, o.x.B.Node, o.x.B.Life)
	}
	w.write(o, next)
}

// write tells a round that has heard what to write.
func (w *world) write(o *one, next api.Ballot) {
	w.t.Helper()
	x, e := round.Write(o.x, written(o.x.B), next)
	o.x = must(w.t, x, e)
	w.ask(o.x)
}

// hold holds that each round that asked, and heard, has heard of those that were agreed and whose ballots it is behind, or
// of higher ones: it tells how many such pairs there are.
func (w *world) hold() (pairs int) {
	w.t.Helper()
	for _, was := range w.rounds {
		for _, o := range w.rounds {
			if !was.isAgreed || !o.asked || !o.heard || stands(o.x.B, was.x.B) <= 0 {
				continue
			}
			pairs++
			if stands(o.acc, was.x.B) < 0 {
				w.t.Fatalf("P17.2: %v was agreed, and %v has heard of %v: %v", was.x.B, o.x.B, o.acc, w.row)
			}
		}
	}
	return pairs
}

// step does one of the things that can befall messages: it is lost, doubled, or given.
func (w *world) step(rnd *rand.Rand) {
	w.t.Helper()
	if len(w.flies) == 0 || rnd.Intn(15) == 0 {
		w.ask(pick(rnd, w.rounds).x)
	}
	if len(w.flies) == 0 {
		return
	}
	i := rnd.Intn(len(w.flies))
	m := w.flies[i]
	n := rnd.Intn(12)
	if n != 0 {
		w.flies = slices.Delete(w.flies, i, i+1)
	}
	if n != 1 {
		w.give(m)
	}
}

// played is a world in which rounds began whose ballots rise mostly, and all that befell them.
func played(t *testing.T, rnd *rand.Rand, c api.Conf) *world {
	t.Helper()
	w := newWorld(t, c, uint8(rnd.Intn(api.MaxKeys)))
	every := 3 + rnd.Intn(30)
	for at := range 120 {
		if at%every == 0 && at < 100 {
			// Each has a node of its own, so that no two have the same ballot.
			count := uint64(1 + at/10 + rnd.Intn(4))
			w.begin(under(count, uint8(at/every), uint32(rnd.Intn(2))), rnd.Intn(4) == 0)
		}
		w.step(rnd)
		w.hold()
	}
	return w
}

func TestWhatWasAgreedIsHeard(t *testing.T) {
	rnd := rand.New(rand.NewSource(2))
	some := []api.Conf{
		stable(0, 0), stable(0, 0, 1), stable(0, 0, 1, 2), five(), six(),
		{C: 3, Old: upTo(3), New: upTo(4)}, {C: 3, Old: upTo(2), New: []uint8{1}}, {C: 3, Old: upTo(6), New: []uint8{0, 2, 3, 4, 5}},
	}
	for _, c := range some {
		pairs := 0
		for range 150 {
			pairs += played(t, rnd, c).hold()
		}
		// Rounds that don't meet would show nothing.
		if pairs < 150 {
			t.Errorf("P17.2: under %v only %d rounds heard behind those that were agreed", c, pairs)
		}
	}
}

func TestWhatWasAgreedIsHeardOfAnyQuorum(t *testing.T) {
	// Each way in which keepers agreed to a round, and keepers are asked behind it.
	for _, c := range []api.Conf{stable(0, 0), stable(0, 0, 1), five(), six(), {C: 1, Old: []uint8{0}, New: []uint8{0, 1}}} {
		keepers := conf.Keepers(c, 1)
		for _, all := range []bool{false, true} {
			for wrote := range 1 << len(keepers) {
				for asks := range 1 << len(keepers) {
					x := writing(t, c, 1, b5, all, tomb(), b0)
					y := asking(t, c, 1, b8, all)
					for i, n := range keepers {
						if wrote>>i&1 == 1 {
							x = round.Told(x, yes(x, n, b0, api.Reg{}))
						}
					}
					for i, n := range keepers {
						promise := yes(y, n, b4, plain())
						if x.Got&set(n) != 0 {
							promise = yes(y, n, b5, tomb())
						}
						if asks>>i&1 == 1 {
							y = round.Told(y, promise)
						}
					}
					if x.Phase == api.Agreed && y.Phase == api.Heard && (y.Acc != b5 || !reg.Same(y.Reg, tomb())) {
						t.Fatalf("P17.2: %v was agreed, and %v is heard", x, y)
					}
				}
			}
		}
	}
}
