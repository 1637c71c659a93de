package accept_test

import (
	"fmt"
	"math"
	"math/rand"
	"testing"

	"scrutineer/accept"
	"scrutineer/api"
	"scrutineer/conf"
	"scrutineer/msg"
	"scrutineer/reg"
)

// noPanic tells of a panic.
func noPanic(t *testing.T) {
	t.Helper()
	if p := recover(); p != nil {
		t.Errorf("P0.1: a call panics: %v", p)
	}
}

// longDeeds are deeds with lists of so many parts.
func longDeeds(n int) []deed {
	l := []deed{
		adopt(2, api.Conf{New: make([]uint8, n)}, 9),
		adopt(2, api.Conf{C: 1, Old: make([]uint8, n), New: make([]uint8, n)}, 9),
	}
	for _, r := range []api.Reg{
		{Vars: make([]int64, n)},
		{Done: make([]api.Done, n)},
		{Out: make([]api.Cell, n)},
		{Marks: make([]api.Mark, n)},
		{Done: []api.Done{{Client: 1, Seq: 1, Reply: api.Reply{Vars: make([]int64, n)}}}},
	} {
		r.Kind, r.Inc = api.Live, 1
		l = append(l, answer(write(2, 3, 0, b5, r, b0)))
		m := prepare(2, 3, 0, b5)
		m.Reg = r
		l = append(l, answer(m))
	}
	return l
}

// anyDeeds are deeds with all numbers at their edges, most of which may not be.
func anyDeeds() []deed {
	var l []deed
	for n := range 256 {
		i := uint8(n)
		m := prepare(i, i, 0, b5)
		l = append(l, answer(m), deed{name: "Answer", node: i, m: prepare(2, i, 0, b5)})
		m.Kind = i
		l = append(l, answer(m), erase(i, b5), erase(i, b0), adopt(i, five(), 0), adopt(i, six(), math.MaxUint64))
	}
	for _, b := range edges() {
		l = append(l, answer(prepare(2, 3, 4, b)), answer(write(2, 3, 4, b, tomb(), b5)), answer(write(2, 3, 4, b5, plain(), b)), erase(3, b))
		l = append(l, adopt(2, stable(b.Count, b.Node), b.Count), adopt(2, api.Conf{C: b.Count, Old: []uint8{b.Node}, New: []uint8{1}}, b.Count))
	}
	for _, n := range []int{0, 1, 9, 65, 100_000} {
		l = append(l, longDeeds(n)...)
	}
	return l
}

func TestEveryCallEnds(t *testing.T) {
	defer noPanic(t)
	all := anyDeeds()
	for _, count := range []int{6, 7, 600} {
		for _, were := range [][]api.Rec{nil, {agreed(five())}, {slot(3, b8, b5, api.Reg{})}} {
			d, s := made(t, count, were...)
			for _, x := range all {
				do(s, x)
			}
			d.Fall()
			for _, x := range all {
				do(s, x)
			}
		}
	}
	for _, x := range all {
		if m, e := do(nil, x); e != api.ErrArg || !msg.Same(m, api.Msg{}) {
			t.Fatalf("P16.1: %v of no store: %v, %v", x, m, e)
		}
	}
}

func TestErrorsStandInOrder(t *testing.T) {
	// A disk that is down, and a store without room: what may not be comes ahead of both.
	d, s := made(t, 10, agreed(five()), slot(0, b5, b4, api.Reg{}), promised(1, b5), promised(2, b5))
	rows := []struct {
		d    deed
		want api.Errno
	}{
		{answer(prepare(64, 3, 4, b8)), api.ErrArg},
		{deed{name: "Answer", node: 1, m: prepare(2, 3, 4, b8)}, api.ErrArg},
		{answer(prepare(2, 16, 4, b8)), api.ErrArg},
		{erase(16, b4), api.ErrArg},
		{erase(0, b5), api.ErrState},
		{adopt(2, stable(6), 9), api.ErrArg},
		{adopt(2, stable(6, 1), 9), api.ErrArg},
		{adopt(2, stable(4, 1), 9), api.ErrArg},
	}
	hold := func(what string) {
		t.Helper()
		for _, x := range rows {
			holdRefused(t, "P0.2: "+what, s, x.d, x.want)
		}
	}
	hold("without room")
	holdRefused(t, "P0.2: without room", s, answer(prepare(2, 3, 4, b8)), api.ErrFull)
	holdRefused(t, "P0.2: without room", s, erase(0, b4), api.ErrFull)
	d.Fall()
	hold("a disk that is down")
	holdRefused(t, "P0.2: a disk that is down", s, answer(prepare(2, 0, 4, b8)), api.ErrDown)
	hold("behind an error of the disk")
	holdRefused(t, "P0.2: behind an error of the disk", s, erase(0, b4), api.ErrDown)
	holdRefused(t, "P0.2: behind an error of the disk", s, adopt(2, six(), 0), api.ErrDown)
	// No store comes with what may not be: it is the same error.
	for _, x := range rows {
		holdRefused(t, "P0.2: no store", nil, x.d, api.ErrArg)
	}
}

// wipe writes zeros into a list, and into the room behind its end.
func wipe[T any](l []T) {
	clear(l[:cap(l)])
}

// wipeReg writes zeros into all lists of a register.
func wipeReg(r api.Reg) {
	for _, d := range r.Done {
		wipe(d.Reply.Vars)
	}
	wipe(r.Done)
	wipe(r.Vars)
	wipe(r.Out)
	wipe(r.Marks)
}

// roomy is a list in new memory, never nil, with room behind its end, where something stands.
func roomy[T any](l []T, behind T) []T {
	return append(append(make([]T, 0, len(l)+2), l...), behind)[:len(l)]
}

// roomyDeed is the same deed in new memory, with room behind each list.
func roomyDeed(x deed) deed {
	r := &x.m.Reg
	r.Vars = roomy(r.Vars, 77)
	r.Done = roomy(r.Done, api.Done{Client: 77})
	for i := range r.Done {
		vars := &r.Done[i].Reply.Vars
		*vars = roomy(*vars, 77)
	}
	r.Out = roomy(r.Out, api.Cell{N: 77})
	r.Marks = roomy(r.Marks, api.Mark{Inc: 77})
	x.c.Old = roomy(x.c.Old, 77)
	x.c.New = roomy(x.c.New, 77)
	return x
}

// whole tells a deed, and what stands in the room behind its lists.
func whole(x deed) string {
	r, c := x.m.Reg, x.c
	s := fmt.Sprint(x.m, x.c, r.Vars[:cap(r.Vars)], r.Done[:cap(r.Done)], r.Out[:cap(r.Out)], r.Marks[:cap(r.Marks)], c.Old[:cap(c.Old)], c.New[:cap(c.New)])
	for _, d := range r.Done {
		s += fmt.Sprint(d.Reply.Vars[:cap(d.Reply.Vars)])
	}
	return s
}

// wipeDeed writes zeros into all lists of a deed.
func wipeDeed(x deed) {
	wipeReg(x.m.Reg)
	wipe(x.c.Old)
	wipe(x.c.New)
}

func TestWhatIsHandedInIsNeitherChangedNorKept(t *testing.T) {
	for _, x := range []deed{
		answer(write(2, 5, 4, b5, plain(), b0)),
		answer(write(2, 5, 4, b5, tomb(), under(9, 2, 1))),
		answer(write(2, 5, 3, b5, plain(), b0)),
		answer(write(2, 1, 4, b5, plain(), b0)),
		answer(prepare(2, 1, 4, b8)),
		adopt(2, six(), 9),
		adopt(2, five(), 9),
		adopt(2, stable(6, 1, 2), 9),
	} {
		for _, count := range []int{60, 14} {
			d, s := made(t, count, agreed(five()), slot(1, b8, b4, plain()), promised(3, b5))
			_, other := made(t, count, agreed(five()), slot(1, b8, b4, plain()), promised(3, b5))
			in := roomyDeed(x)
			was := whole(in)
			m, e := do(s, in)
			n, f := do(other, x)
			if whole(in) != was {
				t.Fatalf("P0.3: %v changes what it is handed, or the room behind its lists: %s, not %s", x, whole(in), was)
			}
			wipeDeed(in)
			if !msg.Same(m, n) || e != f {
				t.Fatalf("P0.3: %v: %v, %v, not %v, %v", x, m, e, n, f)
			}
			holdKnows(t, fmt.Sprintf("P0.3: what was handed to %v is another one now", x), s, other.State())
			holdKnows(t, "P0.3: opened anew", opened(t, d), other.State())
		}
	}
}

func TestAnswersAreNewMemory(t *testing.T) {
	for _, r := range []api.Reg{plain(), tomb(), largest()} {
		d, s := made(t, 300, slot(3, b5, b4, r), slot(4, b5, b4, r))
		knew := s.State()
		for n := range uint64(3) {
			b := under(9+n, 1, 0)
			one, e := do(s, answer(prepare(2, 3, 0, b)))
			must(t, "P0.3: Answer", e, api.OK)
			two, e := do(s, answer(prepare(2, 3, 0, b)))
			must(t, "P0.3: Answer", e, api.OK)
			other, e := do(s, answer(prepare(2, 4, 0, b)))
			must(t, "P0.3: Answer", e, api.OK)
			wipeReg(one.Reg)
			if !reg.Same(two.Reg, r) || !reg.Same(other.Reg, r) {
				t.Fatalf("P0.3: two answers share memory: %v, %v", two, other)
			}
			knew.Slots[3].Promise, knew.Slots[4].Promise = b, b
			holdKnows(t, "P0.3: who writes into an answer", s, knew)
			holdKnows(t, "P0.3: who writes into an answer, opened anew", opened(t, d), knew)
			// The same of a store that took what it knows from its disk.
			s = opened(t, d)
		}
	}
}

func TestLaterCallsChangeNoAnswer(t *testing.T) {
	_, s := made(t, 60, slot(3, b5, b4, plain()))
	a, e := do(s, answer(prepare(2, 3, 0, b7)))
	must(t, "P0.3: Answer", e, api.OK)
	r := plain()
	r.Vars[0], r.Done[0].Reply.Vars[0], r.Out[0].N, r.Marks[0].Inc = 1, 1, 1, 1
	for n := range uint64(40) {
		do(s, answer(write(2, 3, 0, under(9+n, 1, 0), r, b0)))
	}
	if want := promise(2, 3, 0, b7, b4, plain()); !msg.Same(a, want) {
		t.Fatalf("P0.3: later calls change an answer: %v, not %v", a, want)
	}
}

func TestListsOfOneAnswerShareNothing(t *testing.T) {
	// What is handed in has the same memory in many places.
	vars := []int64{1, 2}
	r := plain()
	r.Vars = vars
	r.Done = []api.Done{{Client: 1, Seq: 1, Reply: api.Reply{Vars: vars}}, {Client: 2, Seq: 1, Reply: api.Reply{Vars: vars}}}
	_, s := made(t, 60)
	_, e := do(s, answer(write(2, 3, 0, b5, r, b0)))
	must(t, "P0.3: Answer", e, api.OK)
	a, e := do(s, answer(prepare(2, 3, 0, b8)))
	must(t, "P0.3: Answer", e, api.OK)
	wipe(a.Reg.Vars)
	if done := a.Reg.Done; fmt.Sprint(done[0].Reply.Vars, done[1].Reply.Vars) != "[1 2] [1 2]" {
		t.Errorf("P0.3: two lists of an answer share memory: %v", a)
	}
	wipe(a.Reg.Done[0].Reply.Vars)
	if fmt.Sprint(a.Reg.Done[1].Reply.Vars) != "[1 2]" {
		t.Errorf("P0.3: two lists of an answer share memory: %v", a)
	}
	old := []uint8{0, 1, 2, 3, 4, 5}
	_, e = do(s, adopt(2, api.Conf{C: 5, Old: old[:5], New: old}, 0))
	must(t, "P0.3: Adopt", e, api.OK)
	if !conf.Same(s.Conf(), six()) {
		t.Errorf("P0.3: adopted is %v", s.Conf())
	}
}

func TestNilIsAsEmpty(t *testing.T) {
	rows := []deed{
		adopt(2, stable(0, 2), 0),
		adopt(2, stable(0, 2), 3),
		adopt(2, api.Conf{}, 3),
		answer(prepare(2, 3, 0, b5)),
		answer(write(2, 3, 0, b5, api.Reg{Kind: api.Tomb, Inc: 1, Done: []api.Done{{Client: 1, Seq: 1}}}, b0)),
		answer(write(2, 4, 0, b5, api.Reg{}, b0)),
		answer(prepare(2, 3, 0, b8)),
		answer(prepare(2, 4, 0, b8)),
		answer(prepare(2, 3, 2, b8)),
		adopt(2, api.Conf{C: 1, Old: []uint8{2}, New: []uint8{2, 3}}, 0),
		adopt(2, stable(2, 2, 3), 0),
		erase(3, b5),
	}
	d, s := made(t, 60)
	other, as := made(t, 60)
	for _, x := range rows {
		m, e := do(s, x)
		n, f := do(as, roomyDeed(x))
		if !msg.Same(m, n) || e != f {
			t.Fatalf("P0.4: %v: %v, %v, with empty lists %v, %v", x, m, e, n, f)
		}
	}
	if stand(d) != stand(other) {
		t.Fatalf("P0.4: with empty lists the disk is\n%s\nnot\n%s", stand(other), stand(d))
	}
}

func TestAnswersHangOnWhatTheStoreWasTold(t *testing.T) {
	rnd := rand.New(rand.NewSource(7))
	for range 150 {
		size, count := 64+rnd.Intn(449), 6+rnd.Intn(50)
		alone := newBench(t, size, count, false)
		var row []deed
		var want []api.Msg
		var errs []api.Errno
		for range 40 {
			x := randomDeed(rnd, alone.s.State(), 2)
			m, e := alone.ask(x)
			row, want, errs = append(row, x), append(want, m), append(errs, e)
		}
		// The same row, while another acceptor is told others.
		b, other := newBench(t, size, count, false), newBench(t, size, count, false)
		for i, x := range row {
			other.ask(randomDeed(rnd, other.s.State(), 1))
			if m, e := b.ask(x); !msg.Same(m, want[i]) || e != errs[i] {
				t.Fatalf("P0.5: %v: %v, %v, before %v, %v", x, m, e, want[i], errs[i])
			}
		}
		if stand(b.d) != stand(alone.d) {
			t.Fatalf("P0.5: behind %v the disk is\n%s\nnot\n%s", row, stand(b.d), stand(alone.d))
		}
		holdKnows(t, "P0.5", b.s, alone.s.State())
	}
}

func TestWhatPutsNothingChangesNothing(t *testing.T) {
	d, s := made(t, 60, history()...)
	was, knew := stand(d), s.State()
	d.Fuse(0)
	for range 3 {
		for _, x := range []deed{
			answer(prepare(2, 1, 4, b4)), answer(prepare(2, 1, 3, b8)), answer(prepare(2, 0, 4, under(3, 1, 0))),
			answer(write(2, 3, 4, b5, plain(), b0)), answer(write(2, 3, 4, b4, plain(), b0)), answer(write(2, 9, 5, b8, plain(), b0)),
			erase(1, b4), erase(2, b4), erase(3, b6), adopt(2, five(), 99), adopt(2, stable(6, 1, 2), 99),
		} {
			do(s, x)
		}
	}
	holdKnows(t, "P0.5: asked thrice", s, knew)
	if stand(d) != was {
		t.Errorf("P0.5: what puts nothing changes the disk: %s", stand(d))
	}
	_, e := accept.Answer(s, 2, prepare(2, 1, 4, under(9, 1, 0)))
	must(t, "P16.1: the fuse burns at what puts something", e, api.ErrDown)
}
