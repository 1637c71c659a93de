package engine_test

import (
	"fmt"
	"math"
	"math/rand"
	"slices"
	"testing"

	"scrutineer/api"
	"scrutineer/engine"
	"scrutineer/reg"
)

// ofClients are the kinds of operations that have a client.
var ofClients = []uint8{api.OpCreate, api.OpFire, api.OpRead, api.OpDelete}

func TestOnce(t *testing.T) {
	rnd := rand.New(rand.NewSource(4))
	came := map[what]int{}
	for range 30_000 {
		x := contract(rnd)
		r := register(rnd, x)
		o := operation(rnd, r)
		if o.Client == 0 {
			continue
		}
		y, first, e := engine.Apply(x, r, o, number(rnd))
		z, second, f := engine.Apply(x, y, o, number(rnd))
		if e != api.OK || f != api.OK || !reg.Same(y, z) || !reg.SameReply(first, second) {
			t.Fatalf("P7.2: %v twice, of %v: %v, %v, %v, then %v, %v, %v", o, r, y, first, e, z, second, f)
		}
		came[what{o.Kind, first.Err}]++
		// Another operation under the same number is that one again, where there is an entry of it.
		other := operation(rnd, y)
		other.Kind, other.Client, other.Seq = one(rnd, ofClients), o.Client, o.Seq
		other.Party = max(other.Party, 1)
		z, second, f = engine.Apply(x, y, other, number(rnd))
		if y.Kind != api.Absent && (f != api.OK || !reg.Same(y, z) || !reg.SameReply(first, second)) {
			t.Fatalf("P7.2: %v, then %v, of %v: %v, %v, then %v, %v, %v", o, other, r, y, first, z, second, f)
		}
	}
	for _, w := range []what{{api.OpCreate, api.OK}, {api.OpFire, api.OK}, {api.OpRead, api.OK}, {api.OpDelete, api.OK}, {api.OpFire, api.ErrGuard}} {
		if came[w] < 200 {
			t.Errorf("P7.2: operations of the kind %d that are tried come to %v only %d times", w.kind, w.e, came[w])
		}
	}
}

func TestOnceAmongOthers(t *testing.T) {
	// What other clients and workers do between changes nothing of it, as long as the register has the entry.
	rnd := rand.New(rand.NewSource(5))
	came := 0
	for range 3000 {
		x := contract(rnd)
		r := register(rnd, x)
		mine := operation(rnd, r)
		if mine.Client == 0 || r.Kind == api.Absent {
			continue
		}
		r, first, _ := engine.Apply(x, r, mine, number(rnd))
		for range 30 {
			if o := operation(rnd, r); o.Client != mine.Client {
				r, _, _ = engine.Apply(x, r, o, number(rnd))
			}
			y, again, e := engine.Apply(x, r, mine, number(rnd))
			if e != api.OK || !reg.Same(y, r) || !reg.SameReply(again, first) {
				t.Fatalf("P7.2: %v again, of %v: %v, %v, %v, not %v", mine, r, y, again, e, first)
			}
			came++
		}
	}
	if came < 20_000 {
		t.Error("P7.2: what is tried doesn't come to enough:", came)
	}
}

func TestConsumedOnce(t *testing.T) {
	rnd := rand.New(rand.NewSource(6))
	came := map[what]int{}
	for range 600 {
		x := contract(rnd)
		var r api.Reg
		var consumed []api.Op
		for count := range uint64(100) {
			o := operation(rnd, r)
			y, reply, _ := engine.Apply(x, r, o, count+1)
			r = y
			if o.Kind == api.OpConsume && reply.Err != api.ErrDup && reply.Err != api.ErrAbsent {
				consumed = append(consumed, o)
			}
			for _, m := range consumed {
				// Its action, argument and key don't matter.
				m.Action, m.Arg, m.Key = rnd.Intn(32), int64(rnd.Intn(5)), uint8(rnd.Intn(16))
				y, again, e := engine.Apply(x, r, m, count+1)
				if e != api.OK || again.Err != api.ErrDup || !reg.Same(y, r) || !engine.Settled(r, m.Source, m.Inc, m.Cell) {
					t.Fatalf("P7.3: %v again, of %v: %v, %v, %v", m, r, y, again, e)
				}
				came[what{r.Kind, api.ErrDup}]++
			}
		}
	}
	if came[what{api.Live, api.ErrDup}] < 50_000 || came[what{api.Tomb, api.ErrDup}] < 10_000 {
		t.Error("P7.3: what is tried doesn't come to enough:", came)
	}
}

func TestConsumedOnceThroughADeleteAndACreate(t *testing.T) {
	x := shop()
	m := api.Op{Kind: api.OpConsume, Source: 3, Inc: 2, Cell: 5, Action: 1, Arg: 4}
	row := []api.Op{
		{Kind: api.OpCreate, Client: 1, Seq: 1},
		m,
		{Kind: api.OpDelete, Client: 1, Seq: 2},
		{Kind: api.OpRead, Client: 1, Seq: 3},
		{Kind: api.OpCreate, Client: 1, Seq: 4},
		{Kind: api.OpFire, Client: 1, Seq: 5, Action: 3, Party: 1},
	}
	var r api.Reg
	for i, o := range row {
		y, reply, e := engine.Apply(x, r, o, uint64(i+1))
		if want := []api.Errno{0, 0, 0, api.ErrAbsent, 0, 0}[i]; e != api.OK || reply.Err != want {
			t.Fatalf("P7.1: %v of %v: %v, %v", o, r, reply, e)
		}
		r = y
		// All up to it are settled with it.
		for cell := range uint64(7) {
			if got := engine.Settled(r, 3, 2, cell); got != (i >= 1 && cell <= 5) {
				t.Errorf("P7.3: Settled of the cell %d behind %v: %v", cell, o, got)
			}
		}
		if _, again, _ := engine.Apply(x, r, m, 9); i >= 1 && again.Err != api.ErrDup {
			t.Errorf("P7.3: %v behind %v: %v", m, o, again)
		}
	}
}

// answers are all calls' answers about a register and an operation, as text, with lists' ends but not their room.
func answers(x api.Table, r api.Reg, o api.Op, count uint64) string {
	y, reply, e := engine.Apply(x, r, o, count)
	cell, has := engine.Next(r, o.Source)
	return fmt.Sprint(engine.May(o), y, reply, int(e), cell, has, engine.Settled(r, o.Source, o.Inc, o.Cell))
}

// full is a list with the room behind its end.
func full[T any](l []T) []T { return l[:cap(l)] }

// withRoom is a list in new memory, with three parts in the room behind it.
func withRoom[T any](l []T, behind T) []T {
	return append(slices.Clone(l), behind, behind, behind)[: len(l) : len(l)+3]
}

// roomy is the same register in new memory, with room behind all its lists.
func roomy(r api.Reg) api.Reg {
	r = reg.Clone(r)
	for i := range r.Done {
		r.Done[i].Reply.Vars = withRoom(r.Done[i].Reply.Vars, 71)
	}
	r.Vars = withRoom(r.Vars, 72)
	r.Done = withRoom(r.Done, api.Done{Client: 73, Reply: api.Reply{Vars: []int64{74}}})
	r.Out = withRoom(r.Out, api.Cell{N: 75})
	r.Marks = withRoom(r.Marks, api.Mark{Source: 76})
	return r
}

// whole is all that a register has, as text, the room behind its lists' ends too.
func whole(r api.Reg) string {
	text := fmt.Sprint(r, full(r.Vars), full(r.Out), full(r.Marks), full(r.Done))
	for _, d := range full(r.Done) {
		text += fmt.Sprint(full(d.Reply.Vars))
	}
	return text
}

// roomyTable is the same contract in new memory, with room behind all its lists.
func roomyTable(x api.Table) api.Table {
	sign := api.Tok{Op: 77, N: 78}
	x.Rules = withRoom(x.Rules, api.Rule{From: 79})
	for i := range x.Rules {
		r := &x.Rules[i]
		r.Guard = withRoom(r.Guard, sign)
		r.Sets = withRoom(r.Sets, api.Set{Var: 80})
		for k := range r.Sets {
			r.Sets[k].Value = withRoom(r.Sets[k].Value, sign)
		}
		r.Emits = withRoom(r.Emits, api.Emit{Target: 81})
		for k := range r.Emits {
			r.Emits[k].Arg = withRoom(r.Emits[k].Arg, sign)
		}
	}
	return x
}

// wholeTable is all that a contract has, as text, the room behind its lists' ends too.
func wholeTable(x api.Table) string {
	text := fmt.Sprint(x, full(x.Rules))
	for _, r := range x.Rules {
		text += fmt.Sprint(full(r.Guard), full(r.Sets), full(r.Emits))
		for _, s := range r.Sets {
			text += fmt.Sprint(full(s.Value))
		}
		for _, m := range r.Emits {
			text += fmt.Sprint(full(m.Arg))
		}
	}
	return text
}

// fill writes into a list, and into the room behind its end.
func fill[T any](l []T, with T) {
	for i := range full(l) {
		full(l)[i] = with
	}
}

// spoil writes into all lists of a register, and into the room behind their ends.
func spoil(r api.Reg) {
	for _, d := range full(r.Done) {
		fill(d.Reply.Vars, 91)
	}
	fill(r.Vars, 92)
	fill(r.Done, api.Done{Client: 93})
	fill(r.Out, api.Cell{N: 94})
	fill(r.Marks, api.Mark{Source: 95})
}

// tried are an operation, and what it is done to.
type tried struct {
	x     api.Table
	r     api.Reg
	o     api.Op
	count uint64
}

// manyTried are some of all sorts: most can be done, some can't.
func manyTried(seed int64, many int) []tried {
	rnd := rand.New(rand.NewSource(seed))
	var l []tried
	for range many {
		x := contract(rnd)
		w := tried{x, register(rnd, x), api.Op{}, number(rnd)}
		w.o = operation(rnd, w.r)
		switch rnd.Intn(8) {
		case 0:
			// What was done is done once more.
			w.r, _, _ = engine.Apply(x, w.r, w.o, w.count)
		case 1:
			w.r.Vars = values(rnd, rnd.Intn(10))
		case 2:
			w.o.Party = rnd.Intn(9)
		}
		l = append(l, w)
	}
	return l
}

func TestEveryCallEnds(t *testing.T) {
	defer func() {
		if p := recover(); p != nil {
			t.Errorf("P0.1: a call panics: %v", p)
		}
	}()
	rnd := rand.New(rand.NewSource(7))
	odd := func() int { return int(one(rnd, numbers)) }
	for range 10_000 {
		x := contract(rnd)
		r := api.Reg{Kind: uint8(rnd.Intn(4)), Inc: uint64(odd()), State: odd(), Last: uint64(odd())}
		r.Vars, r.Done, r.Out, r.Marks = make([]int64, rnd.Intn(11)), make([]api.Done, rnd.Intn(11)), make([]api.Cell, rnd.Intn(11)), make([]api.Mark, rnd.Intn(20))
		o := api.Op{Kind: uint8(rnd.Intn(9)), Key: uint8(odd()), Client: uint8(rnd.Intn(10)), Seq: uint64(odd()), Action: odd(), Party: odd(), Arg: int64(odd())}
		o.Source, o.Inc, o.Cell = uint8(rnd.Intn(20)), uint64(odd()), uint64(odd())
		answers(x, r, o, uint64(odd()))
		answers(x, register(rnd, x), o, uint64(odd()))
		answers(x, r, operation(rnd, r), number(rnd))
		x.States, x.Vars = odd(), odd()
		answers(x, r, o, number(rnd))
		answers(x, register(rnd, contract(rnd)), operation(rnd, r), number(rnd))
	}
	for _, n := range []int{9, 17, 1000, 100_000} {
		r := api.Reg{Kind: api.Live, Inc: 1, Vars: make([]int64, n), Done: make([]api.Done, n), Out: make([]api.Cell, n), Marks: make([]api.Mark, n)}
		for kind := range uint8(9) {
			answers(api.Table{States: 1, Vars: n, Rules: make([]api.Rule, n)}, r, api.Op{Kind: kind}, 1)
			answers(shop(), r, api.Op{Kind: kind, Client: 1, Seq: 1, Action: math.MaxInt, Party: 1}, 1)
		}
	}
}

func TestErrorsStandAlone(t *testing.T) {
	came := map[bool]int{}
	for _, w := range manyTried(8, 20_000) {
		r, reply, e := engine.Apply(w.x, w.r, w.o, w.count)
		if e != api.OK && (!reg.Same(r, api.Reg{}) || !reg.SameReply(reply, api.Reply{})) {
			t.Fatalf("P0.2: %v of %v: %v, %v beside %v", w.o, w.r, r, reply, e)
		}
		entry := slices.ContainsFunc(w.r.Done, func(d api.Done) bool { return d.Client == w.o.Client && d.Seq == w.o.Seq })
		if reply.Err != api.OK && !entry && !reg.SameReply(reply, api.Reply{Err: reply.Err}) {
			t.Fatalf("P0.2: %v of %v: the reply %v", w.o, w.r, reply)
		}
		if c, has := engine.Next(w.r, w.o.Key); !has && c != (api.Cell{}) {
			t.Fatalf("P0.2: Next of %v: %v, %v", w.r, c, has)
		}
		came[e != api.OK]++
	}
	if came[true] < 2000 || came[false] < 2000 {
		t.Error("P0.2: what is tried doesn't come to enough:", came)
	}
}

func TestCallsLeaveWhatIsHandedIn(t *testing.T) {
	for _, w := range manyTried(9, 2000) {
		r, x := roomy(w.r), roomyTable(w.x)
		before, beforeTable := whole(r), wholeTable(x)
		y, reply, _ := engine.Apply(x, r, w.o, w.count)
		engine.Next(r, w.o.Source)
		engine.Settled(r, w.o.Source, w.o.Inc, w.o.Cell)
		if whole(r) != before || wholeTable(x) != beforeTable {
			t.Fatalf("P0.3: what was handed in, or the room behind its lists, is changed by %v: %v, %v", w.o, r, x)
		}
		// Nor is any of it in the answers.
		spoil(y)
		fill(reply.Vars, 96)
		if whole(r) != before || wholeTable(x) != beforeTable {
			t.Fatalf("P0.3: an answer of %v shares memory with what was handed in: %v, %v", w.o, r, x)
		}
	}
}

func TestAnswersAreNewMemory(t *testing.T) {
	for _, w := range manyTried(10, 5000) {
		want := answers(w.x, w.r, w.o, w.count)
		r := roomy(w.r)
		y, reply, e := engine.Apply(w.x, r, w.o, w.count)
		kept := fmt.Sprint(y, reply, e)
		// Another register's answers, a second one of this, and who writes into these, change nothing.
		engine.Apply(shop(), stock(), api.Op{Kind: api.OpCreate, Client: 3, Seq: 1}, 9)
		z, second, _ := engine.Apply(w.x, r, w.o, w.count)
		spoil(z)
		fill(second.Vars, 96)
		if fmt.Sprint(y, reply, e) != kept {
			t.Fatalf("P0.3: two answers of %v share memory: %v, %v", w.o, y, reply)
		}
		if answers(w.x, r, w.o, w.count) != want {
			t.Fatalf("P0.3: an answer of %v is kept", w.o)
		}
		spoil(r)
		if fmt.Sprint(y, reply, e) != kept {
			t.Fatalf("P0.3: what was handed in is kept in an answer of %v: %v, %v", w.o, y, reply)
		}
	}
}

func TestListsOfOneAnswerShareNothing(t *testing.T) {
	for _, w := range manyTried(11, 10_000) {
		y, reply, _ := engine.Apply(w.x, w.r, w.o, w.count)
		l := [][]int64{y.Vars, reply.Vars}
		for _, d := range y.Done {
			l = append(l, d.Reply.Vars)
		}
		for i, vars := range l {
			fill(vars, int64(i))
		}
		for i, vars := range l {
			if slices.ContainsFunc(full(vars), func(n int64) bool { return n != int64(i) }) {
				t.Fatalf("P0.3: two lists of one answer of %v share memory: %v, %v", w.o, y, reply)
			}
		}
	}
}

// emptied is the same register with empty lists, where it had nil ones.
func emptied(r api.Reg) api.Reg {
	r.Vars = append([]int64{}, r.Vars...)
	r.Done = append([]api.Done{}, r.Done...)
	for i := range r.Done {
		r.Done[i].Reply.Vars = append([]int64{}, r.Done[i].Reply.Vars...)
	}
	r.Out = append([]api.Cell{}, r.Out...)
	r.Marks = append([]api.Mark{}, r.Marks...)
	return r
}

func TestNilIsAsEmpty(t *testing.T) {
	x := api.Table{States: 1, Rules: []api.Rule{{Action: 1, Party: 1}, {Action: 1}}}
	y := api.Table{States: 1, Rules: []api.Rule{
		{Action: 1, Party: 1, Guard: []api.Tok{}, Sets: []api.Set{}, Emits: []api.Emit{}},
		{Action: 1, Guard: []api.Tok{}, Sets: []api.Set{}, Emits: []api.Emit{}},
	}}
	bare := api.Table{States: 1}
	bareEmpty := api.Table{States: 1, Rules: []api.Rule{}}
	for _, r := range []api.Reg{
		{},
		{Kind: api.Live},
		{Kind: api.Live, Inc: 1},
		{Kind: api.Tomb, Inc: 1, Last: 3},
		{Kind: api.Live, Inc: 1, Done: []api.Done{{Client: 1, Seq: 1}}},
		{Kind: api.Live, Inc: 1, Marks: []api.Mark{{Source: 2, Inc: 1, Cell: 1}}},
	} {
		for kind := range uint8(9) {
			o := api.Op{Kind: kind, Client: 1, Seq: 1, Action: 1, Party: 1, Source: 2, Inc: 1, Cell: 1}
			if !mayModel(o) {
				o.Client, o.Seq = 0, 0
			}
			for _, tables := range [][2]api.Table{{x, y}, {bare, bareEmpty}} {
				p, q := answers(tables[0], r, o, 4), answers(tables[1], emptied(r), o, 4)
				if p != q {
					t.Errorf("P0.4: %v of %v with nil lists: %s, with empty ones: %s", o, r, p, q)
				}
			}
		}
	}
}

func TestAnswersHangOnArgumentsAlone(t *testing.T) {
	l := manyTried(12, 10_000)
	var first []string
	for _, w := range l {
		first = append(first, answers(w.x, w.r, w.o, w.count))
	}
	for _, i := range rand.New(rand.NewSource(13)).Perm(len(l)) {
		// The same numbers elsewhere, with room behind them.
		w := l[i]
		if got := answers(roomyTable(w.x), roomy(w.r), w.o, w.count); got != first[i] {
			t.Fatalf("P0.5: %v of %v: %s, before %s", w.o, w.r, got, first[i])
		}
	}
}
