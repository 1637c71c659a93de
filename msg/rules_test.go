package msg_test

import (
	"bytes"
	"math"
	"math/rand"
	"reflect"
	"testing"

	"scrutineer/api"
	"scrutineer/msg"
)

// answers are all calls' answers about a message, and about bytes.
type answers struct {
	may, same bool
	b         []byte
	put, err  api.Errno
	got       api.Msg
}

// ask calls all that there is.
func ask(m api.Msg, b []byte) answers {
	x := answers{may: msg.May(m), same: msg.Same(m, some()[0])}
	x.b, x.put = msg.Put(m)
	x.got, x.err = msg.Get(b)
	return x
}

// odd is a message of which mostly nothing may be.
func odd(rnd *rand.Rand) api.Msg {
	m := api.Msg{Reg: api.Reg{
		Vars:  make([]int64, rnd.Intn(10)),
		Done:  make([]api.Done, rnd.Intn(10)),
		Out:   make([]api.Cell, rnd.Intn(10)),
		Marks: make([]api.Mark, rnd.Intn(18)),
	}}
	for i := range m.Reg.Done {
		m.Reg.Done[i].Reply.Vars = make([]int64, rnd.Intn(10))
	}
	edges := []int{0, 1, 2, -1, 63, 64, 255, math.MaxInt, math.MinInt}
	for _, place := range places(reflect.ValueOf(&m).Elem()) {
		if place.Kind() != reflect.Bool {
			turn(place, edges[rnd.Intn(len(edges))])
		} else if rnd.Intn(2) == 0 {
			turn(place, 1)
		}
	}
	return m
}

func TestEveryCallEnds(t *testing.T) {
	defer func() {
		if p := recover(); p != nil {
			t.Errorf("P0.1: a call panics: %v", p)
		}
	}()
	rnd := rand.New(rand.NewSource(4))
	for range 20_000 {
		b := make([]byte, rnd.Intn(60))
		rnd.Read(b)
		for i := range b {
			b[i] >>= rnd.Intn(8)
		}
		ask(odd(rnd), b)
		ask(odd(rnd), mark(b))
	}
	for _, n := range []int{0, 1, 2, 3, 4, 5, 9, 21, 1000, 100_000} {
		for c := range 256 {
			msg.Get(bytes.Repeat([]byte{byte(c)}, n))
			msg.Get(mark(bytes.Repeat([]byte{byte(c)}, min(n, 3000))))
		}
		for kind := range uint8(6) {
			for _, r := range []api.Reg{
				{Vars: make([]int64, n)},
				{Done: make([]api.Done, n)},
				{Out: make([]api.Cell, n)},
				{Marks: make([]api.Mark, n)},
				{Done: []api.Done{{Client: 1, Seq: 1, Reply: api.Reply{Vars: make([]int64, n)}}}},
			} {
				r.Kind, r.Inc = 1, 1
				ask(api.Msg{Kind: kind, B: under(1, 1, 1), Reg: r}, nil)
				ask(api.Msg{Kind: kind, B: under(1, 1, 1), OK: true, Acc: under(1, 1, 1), Reg: r}, nil)
			}
		}
	}
}

func TestErrorsStandAlone(t *testing.T) {
	rnd := rand.New(rand.NewSource(5))
	for _, m := range append(some(), faults()...) {
		if b, e := msg.Put(m); e != api.OK && len(b) > 0 {
			t.Fatalf("P0.2: Put of %v: %x beside %v", m, b, e)
		}
		b := body(m)
		for range 50 {
			changed := bytes.Clone(b)
			changed[rnd.Intn(len(b))] = byte(rnd.Intn(256))
			if got, e := msg.Get(mark(changed)); e != api.OK && !alike(got, api.Msg{}) {
				t.Fatalf("P0.2: Get of %x: %v beside %v", changed, got, e)
			}
		}
	}
}

// whole are the places of all that a value's lists have, the room behind their ends too.
func whole(x reflect.Value) []reflect.Value {
	var l []reflect.Value
	switch x.Kind() {
	case reflect.Slice:
		x = x.Slice(0, x.Cap())
		for i := range x.Len() {
			l = append(l, whole(x.Index(i))...)
		}
	case reflect.Struct:
		for i := range x.NumField() {
			l = append(l, whole(x.Field(i))...)
		}
	default:
		l = append(l, x)
	}
	return l
}

// seen is what stands at all places of a value's lists, and in the room behind their ends.
func seen(x any) []any {
	var l []any
	for _, place := range whole(reflect.ValueOf(x)) {
		l = append(l, place.Interface())
	}
	return l
}

// spoil writes into all lists of a value, and into the room behind their ends.
func spoil(x any) {
	for _, place := range whole(reflect.ValueOf(x)) {
		if place.CanSet() {
			turn(place, 77)
		}
	}
}

func TestCallsLeaveWhatIsHandedIn(t *testing.T) {
	rnd := rand.New(rand.NewSource(6))
	l := append(some(), faults()...)
	for range 500 {
		l = append(l, odd(rnd), random(rnd))
	}
	for i, m := range l {
		m = clone(m, 3)
		room := append(mark(body(m)), bytes.Repeat([]byte{99}, 200)...)
		b := room[:len(room)-200]
		if i%3 == 0 {
			b[rnd.Intn(len(b))]++
		}
		before, keep := seen(m), bytes.Clone(room)
		ask(m, b)
		msg.Same(m, m)
		if !alike(seen(m), before) {
			t.Fatalf("P0.3: a message that was handed in, or the room behind its lists, is changed: %v", m)
		}
		if !bytes.Equal(room, keep) {
			t.Fatalf("P0.3: bytes that were handed in, or the room behind them, are changed: %x, not %x", room, keep)
		}
	}
}

func TestAnswersAreNewMemory(t *testing.T) {
	for i := range some() {
		m := clone(some()[i], 2)
		bytesOf := append(make([]byte, 0, 3000), mark(body(m))...)
		// What is held against is never an answer, which could share memory, too.
		keep, want := some()[i], bytes.Clone(bytesOf)
		wrong := func(x answers) bool { return !alike(x.got, keep) || !bytes.Equal(x.b, want) }
		first, second := ask(m, bytesOf), ask(m, bytesOf)
		// Another message's answers go elsewhere, too.
		ask(api.Msg{Kind: 3, B: under(1, 1, 1), Reg: largest()}, mark(bytes.Repeat([]byte{1}, 30)))
		if wrong(first) || wrong(second) {
			t.Fatalf("P0.3: a later call changes what a first one answered of %v: %v", keep, first)
		}
		spoil(first.b)
		spoil(first.got)
		if !alike(m, keep) || !bytes.Equal(bytesOf, want) {
			t.Fatalf("P0.3: an answer shares memory with what was handed in: %v", keep)
		}
		if wrong(second) {
			t.Fatalf("P0.3: two answers share memory: %v", keep)
		}
		if wrong(ask(m, bytesOf)) {
			t.Fatalf("P0.3: an answer is kept: %v", keep)
		}
		spoil(m)
		spoil(bytesOf)
		if wrong(second) {
			t.Fatalf("P0.3: what was handed in is kept in an answer: %v", keep)
		}
	}
}

func TestListsOfOneAnswerShareNothing(t *testing.T) {
	for _, r := range regs() {
		m, e := msg.Get(mark(body(api.Msg{Kind: 3, B: under(1, 1, 1), Reg: r})))
		if e != api.OK {
			t.Fatal("P11.1: an accept isn't got:", e)
		}
		met := map[uintptr]bool{}
		visit := func(list reflect.Value) {
			l := list.Slice(0, list.Cap())
			for i := range l.Len() {
				at := l.Index(i).Addr().Pointer()
				if met[at] {
					t.Fatal("P0.3: two lists of one answer share memory")
				}
				met[at] = true
			}
		}
		visit(reflect.ValueOf(m.Reg.Vars))
		visit(reflect.ValueOf(m.Reg.Done))
		visit(reflect.ValueOf(m.Reg.Out))
		visit(reflect.ValueOf(m.Reg.Marks))
		for _, d := range m.Reg.Done {
			visit(reflect.ValueOf(d.Reply.Vars))
		}
	}
}

// alikeAnswers tells whether two calls were answered the same.
func alikeAnswers(p, q answers) bool {
	return p.may == q.may && p.same == q.same && bytes.Equal(p.b, q.b) && p.put == q.put && p.err == q.err && alike(p.got, q.got)
}

func TestNilIsAsEmpty(t *testing.T) {
	for _, m := range append(some(), faults()...) {
		x := clone(m, 0)
		if x.Reg.Vars == nil || x.Reg.Out == nil {
			t.Fatal("an empty list is nil")
		}
		if p, q := ask(m, nil), ask(x, []byte{}); !alikeAnswers(p, q) {
			t.Errorf("P0.4: of nil lists %v, of empty ones %v", p, q)
		}
		if !msg.Same(m, x) || !msg.Same(x, m) {
			t.Errorf("P0.4: Same of %v with nil lists and with empty ones: false", m)
		}
	}
}

func TestAnswersHangOnArgumentsAlone(t *testing.T) {
	rnd := rand.New(rand.NewSource(7))
	type question struct {
		m api.Msg
		b []byte
	}
	var l []question
	var first []answers
	for i := range 2000 {
		q := question{m: random(rnd)}
		if i%3 == 0 {
			q.m = odd(rnd)
		}
		b := body(random(rnd))
		if i%2 == 0 {
			b[rnd.Intn(len(b))]++
		}
		q.b = mark(b)
		l = append(l, q)
		first = append(first, ask(q.m, q.b))
	}
	for _, i := range rnd.Perm(len(l)) {
		// The same elsewhere, with more room behind it.
		if got := ask(clone(l[i].m, 9), withRoom(l[i].b, 99)); !alikeAnswers(got, first[i]) {
			t.Fatalf("P0.5: of %v: %v, before %v", l[i], got, first[i])
		}
	}
}
