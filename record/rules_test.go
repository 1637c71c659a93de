package record_test

import (
	"bytes"
	"math/rand"
	"testing"

	"scrutineer/api"
	"scrutineer/record"
)

// question is what all calls are asked about.
type question struct {
	s api.State
	r api.Rec
	b []byte
}

// answers are all calls' answers.
type answers struct {
	may, same bool
	b         []byte
	put, err  api.Errno
	got       api.Rec
	behind    api.State
	all       []api.Rec
}

// ask calls all that there is.
func ask(q question) answers {
	x := answers{may: record.May(q.r), same: record.Same(q.s, fullState())}
	x.b, x.put = record.Put(q.r)
	x.got, x.err = record.Get(q.b)
	x.behind = record.Fold(q.s, q.r)
	x.all = record.All(q.s)
	return x
}

// alikeAnswers tells whether two rows of calls were answered the same.
func alikeAnswers(p, q answers) bool {
	return p.may == q.may && p.same == q.same && bytes.Equal(p.b, q.b) && p.put == q.put && p.err == q.err &&
		alike(p.got, q.got) && alike(p.behind, q.behind) && alike(p.all, q.all)
}

// cloned is the same question in new memory, with so much room behind each list.
func cloned(q question, room int) question {
	return question{clone(q.s, room), clone(q.r, room), clone(q.b, room)}
}

// randomQuestion is one of any kind.
func randomQuestion(rnd *rand.Rand) question {
	q := question{randomState(rnd, 1+rnd.Intn(4)), random(rnd), bytesOf(random(rnd))}
	if rnd.Intn(3) == 0 {
		q.r = odd(rnd)
	}
	if rnd.Intn(5) == 0 {
		q.s = oddState(rnd)
	}
	if rnd.Intn(2) == 0 {
		q.b[rnd.Intn(len(q.b))]++
	}
	return q
}

func TestEveryCallEnds(t *testing.T) {
	defer func() {
		if p := recover(); p != nil {
			t.Errorf("P0.1: a call panics: %v", p)
		}
	}()
	rnd := rand.New(rand.NewSource(9))
	for range 1000 {
		q := question{oddState(rnd), odd(rnd), make([]byte, rnd.Intn(60))}
		rnd.Read(q.b)
		for i := range q.b {
			q.b[i] >>= rnd.Intn(8)
		}
		ask(q)
	}
	for _, n := range []int{0, 1, 2, 3, 8, 9, 21, 64, 65, 1000, 100_000} {
		for c := range 256 {
			record.Get(bytes.Repeat([]byte{byte(c)}, n))
		}
		for kind := range uint8(8) {
			record.Get(append([]byte{kind}, make([]byte, n)...))
			record.Get(append([]byte{kind}, bytes.Repeat([]byte{255}, n)...))
			record.Get(append([]byte{kind, 1, 1, 1, 1, 0, 0, 0, 1, 1, 1}, bytes.Repeat([]byte{100}, n)...))
			for _, r := range longRecs(n) {
				r.Kind = kind
				var s api.State
				s.Slots[15], s.Conf = api.Slot{Has: true, Reg: r.Reg}, r.Conf
				ask(question{s, r, nil})
			}
		}
	}
	for kind := range 256 {
		for key := range 256 {
			r := api.Rec{Kind: uint8(kind), Key: uint8(key)}
			record.May(r)
			record.Put(r)
			record.Fold(api.State{}, r)
		}
	}
}

// longRecs are records with lists of so many parts.
func longRecs(n int) []api.Rec {
	b := under(1, 1, 1)
	l := []api.Rec{
		{Conf: api.Conf{New: make([]uint8, n)}},
		{Conf: api.Conf{C: 1, Old: bytes.Repeat([]byte{255}, n), New: make([]uint8, n)}},
	}
	for _, r := range []api.Reg{
		{Vars: make([]int64, n)},
		{Done: make([]api.Done, n)},
		{Out: make([]api.Cell, n)},
		{Marks: make([]api.Mark, n)},
		{Done: []api.Done{{Client: 1, Seq: 1, Reply: api.Reply{Vars: make([]int64, n)}}}},
	} {
		r.Kind, r.Inc = api.Live, 1
		l = append(l, api.Rec{Promise: b, Acc: b, Reg: r})
	}
	return l
}

func TestErrorsStandAlone(t *testing.T) {
	rnd := rand.New(rand.NewSource(10))
	for _, r := range append(some(), faults()...) {
		if b, e := record.Put(r); e != api.OK && len(b) > 0 {
			t.Fatalf("P0.2: Put of %v: %x beside %v", r, b, e)
		}
		for range 20 {
			b := bytesOf(r)
			b[rnd.Intn(len(b))] = byte(rnd.Intn(256))
			if got, e := record.Get(b); e != api.OK && !alike(got, api.Rec{}) {
				t.Fatalf("P0.2: Get of %x: %v beside %v", b, got, e)
			}
		}
	}
}

func TestCallsLeaveWhatIsHandedIn(t *testing.T) {
	rnd := rand.New(rand.NewSource(11))
	for range 1000 {
		q := cloned(randomQuestion(rnd), 3)
		l := func() []any { return append(append(seen(q.s), seen(q.r)...), seen(q.b)...) }
		before := l()
		ask(q)
		record.Same(q.s, q.s)
		if !alike(l(), before) {
			t.Fatalf("P0.3: what was handed in, or the room behind a list, is changed: %v", q)
		}
	}
}

// lists are those answers that have memory.
func lists(x answers) []any {
	return []any{x.b, x.got, x.behind, x.all}
}

func TestAnswersAreNewMemory(t *testing.T) {
	rnd := rand.New(rand.NewSource(12))
	l := []question{{fullState(), some()[0], bytesOf(some()[0])}}
	for _, r := range some() {
		l = append(l, question{randomState(rnd, 2), r, bytesOf(r)}, question{fullState(), r, bytesOf(r)})
	}
	l = append(l, question{fullState(), faults()[0], nil}, question{oddState(rnd), odd(rnd), nil})
	for _, plainQuestion := range l {
		q, keep := cloned(plainQuestion, 2), cloned(plainQuestion, 0)
		// What is held against is never an answer, which could share memory, too.
		first := ask(q)
		want := answers{first.may, first.same, bytes.Clone(first.b), first.put, first.err, clone(first.got, 0), clone(first.behind, 0), clone(first.all, 0)}
		second := ask(q)
		// Another one's answers go elsewhere, too.
		ask(question{fullState(), api.Rec{Kind: api.RecConf, Conf: confs()[2]}, bytesOf(some()[4])})
		if !alikeAnswers(first, want) || !alikeAnswers(second, want) {
			t.Fatalf("P0.3: a later call changes what a first one answered of %v", keep)
		}
		for _, x := range lists(first) {
			spoil(x)
		}
		if !alike(q.s, keep.s) || !alike(q.r, keep.r) || !alike(q.b, keep.b) {
			t.Fatalf("P0.3: an answer shares memory with what was handed in: %v", keep)
		}
		if !alikeAnswers(second, want) {
			t.Fatalf("P0.3: two answers share memory: of %v", keep)
		}
		if !alikeAnswers(ask(q), want) {
			t.Fatalf("P0.3: an answer is kept: of %v", keep)
		}
		spoil(q.s)
		spoil(q.r)
		spoil(q.b)
		if !alikeAnswers(second, want) {
			t.Fatalf("P0.3: what was handed in is kept in an answer: of %v", keep)
		}
	}
}

// sharing is what is known, in which all lists of one kind are the same memory.
func sharing() (api.State, api.Rec) {
	s, one := fullState(), plain()
	one.Done = append(one.Done, one.Done[0])
	one.Done[1].Client++
	for key := range s.Slots {
		s.Slots[key].Reg = one
	}
	nodes := of(3, 9)
	s.Conf = api.Conf{C: 2, Old: nodes, New: nodes}
	return s, api.Rec{Kind: api.RecSlot, Promise: under(9, 9, 9), Acc: under(9, 9, 9), Reg: one}
}

func TestListsOfOneAnswerShareNothing(t *testing.T) {
	s, r := sharing()
	both := of(3, 9, 11)
	apart := api.Rec{Kind: api.RecConf, Conf: api.Conf{C: 1, Old: both[:2], New: both}}
	for _, x := range []any{
		record.Fold(s, r),
		record.Fold(s, apart),
		record.Fold(s, api.Rec{}),
		record.All(s),
		record.All(record.Fold(s, apart)),
		record.All(api.State{Conf: apart.Conf}),
	} {
		if sharesWithin(x) {
			t.Fatalf("P0.3: two lists of one answer share memory: %v", x)
		}
	}
	for _, r := range some() {
		if got, e := record.Get(bytesOf(r)); e != api.OK || sharesWithin(got) {
			t.Fatalf("P0.3: two lists of one answer share memory: %v, %v", got, e)
		}
	}
}

func TestNilIsAsEmpty(t *testing.T) {
	for i, r := range append(some(), faults()...) {
		q := question{r: r}
		if i%7 == 0 {
			q.s.Slots[i%16] = api.Slot{Has: true, Promise: r.Promise, Acc: r.Acc, Reg: r.Reg}
			q.s.Conf = r.Conf
		}
		x := cloned(q, 0)
		if x.r.Reg.Vars == nil || x.r.Conf.Old == nil || x.s.Slots[3].Reg.Out == nil || x.b == nil {
			t.Fatal("an empty list is nil")
		}
		if p, q := ask(q), ask(x); !alikeAnswers(p, q) {
			t.Errorf("P0.4: of nil lists %v, of empty ones %v", p, q)
		}
		if !record.Same(q.s, x.s) || !record.Same(x.s, q.s) {
			t.Errorf("P0.4: Same of %v with nil lists and with empty ones: false", q.s)
		}
	}
}

func TestAnswersHangOnArgumentsAlone(t *testing.T) {
	rnd := rand.New(rand.NewSource(13))
	var l []question
	var first []answers
	for range 1000 {
		q := randomQuestion(rnd)
		l = append(l, q)
		first = append(first, ask(q))
	}
	for _, i := range rnd.Perm(len(l)) {
		// The same elsewhere, with more room behind it.
		if got := ask(cloned(l[i], 9)); !alikeAnswers(got, first[i]) {
			t.Fatalf("P0.5: of %v: %v, before %v", l[i], got, first[i])
		}
	}
}
