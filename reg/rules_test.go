package reg_test

import (
	"bytes"
	"math/rand"
	"reflect"
	"testing"

	"scrutineer/api"
	"scrutineer/pack"
	"scrutineer/reg"
)

// answers are all calls' answers about a register.
type answers struct {
	may         bool
	b           []byte
	put, end    api.Errno
	got, clone  api.Reg
	same, reply bool
}

// ask calls all that there is.
func ask(ahead []byte, x api.Reg) answers {
	y := answers{may: reg.May(x), clone: reg.Clone(x), same: reg.Same(x, plain())}
	if len(x.Done) > 0 {
		y.reply = reg.SameReply(x.Done[0].Reply, plain().Done[0].Reply)
	}
	y.b, y.put = reg.Put(ahead, x)
	p := pack.New(y.b)
	p.Num(9)
	y.got = reg.Get(p)
	y.end = p.End()
	return y
}

// withRoom is a list in new memory, with so much room behind it.
func withRoom[T any](l []T, room int) []T {
	return append(make([]T, 0, len(l)+room), l...)
}

// clone is the same register in new memory, with so much room behind each list.
func clone(x api.Reg, room int) api.Reg {
	x.Vars = withRoom(x.Vars, room)
	x.Done = withRoom(x.Done, room)
	for i := range x.Done {
		x.Done[i].Reply.Vars = withRoom(x.Done[i].Reply.Vars, room)
	}
	x.Out = withRoom(x.Out, room)
	x.Marks = withRoom(x.Marks, room)
	return x
}

// whole is all that a value's lists have, the room behind their ends too.
func whole(x reflect.Value, see func(number reflect.Value)) {
	switch x.Kind() {
	case reflect.Slice:
		x = x.Slice(0, x.Cap())
		for i := range x.Len() {
			whole(x.Index(i), see)
		}
	case reflect.Struct:
		for i := range x.NumField() {
			whole(x.Field(i), see)
		}
	default:
		see(x)
	}
}

// seen are all numbers that a value has, in order, the room behind the ends of its lists too.
func seen(x any) []uint64 {
	var l []uint64
	whole(reflect.ValueOf(x), func(n reflect.Value) {
		if n.CanInt() {
			l = append(l, uint64(n.Int()))
		} else {
			l = append(l, n.Uint())
		}
	})
	return l
}

// spoil writes into all lists of a value, and into the room behind their ends.
func spoil(x any) {
	whole(reflect.ValueOf(x), func(n reflect.Value) {
		switch {
		case n.CanInt() && n.CanSet():
			n.SetInt(n.Int() + 77)
		case n.CanUint() && n.CanSet():
			n.SetUint(n.Uint() + 77)
		}
	})
}

// odd is a register of which mostly nothing may be.
func odd(rnd *rand.Rand) api.Reg {
	r := api.Reg{
		Vars:  make([]int64, rnd.Intn(11)),
		Done:  make([]api.Done, rnd.Intn(11)),
		Out:   make([]api.Cell, rnd.Intn(11)),
		Marks: make([]api.Mark, rnd.Intn(19)),
	}
	for i := range r.Done {
		r.Done[i].Reply.Vars = make([]int64, rnd.Intn(11))
	}
	for _, leaf := range numbersOf(&r) {
		if rnd.Intn(2) == 0 {
			set(leaf, uint64(one(rnd, numbers)))
		} else {
			set(leaf, uint64(rnd.Intn(4)))
		}
	}
	return r
}

func TestEveryCallEnds(t *testing.T) {
	defer func() {
		if p := recover(); p != nil {
			t.Errorf("P0.1: a call panics: %v", p)
		}
	}()
	rnd := rand.New(rand.NewSource(7))
	for range 20_000 {
		ask(nil, odd(rnd))
		b := make([]byte, rnd.Intn(60))
		rnd.Read(b)
		for i := range b {
			b[i] >>= rnd.Intn(8)
		}
		get(b)
	}
	for _, n := range []int{9, 17, 1000, 100_000} {
		for _, x := range []api.Reg{
			{Vars: make([]int64, n)},
			{Done: make([]api.Done, n)},
			{Done: []api.Done{{Client: 1, Seq: 1, Reply: api.Reply{Vars: make([]int64, n)}}}},
			{Out: make([]api.Cell, n)},
			{Marks: make([]api.Mark, n)},
		} {
			for kind := range uint8(4) {
				x.Kind, x.Inc = kind, 1
				ask(make([]byte, n), x)
			}
		}
		for _, c := range []byte{0, 1, 2, 0x7f, 0x80, 0xff} {
			get(bytes.Repeat([]byte{c}, n))
			get(append([]byte{1}, bytes.Repeat([]byte{c}, n)...))
		}
	}
	reg.Get(nil)
	reg.Put(nil, api.Reg{})
	reg.Same(api.Reg{}, api.Reg{})
	reg.SameReply(api.Reply{}, api.Reply{})
	reg.Clone(api.Reg{})
}

func TestErrorsStandAlone(t *testing.T) {
	rnd := rand.New(rand.NewSource(8))
	for at := range 20_000 {
		x := odd(rnd)
		if at%2 == 0 {
			x = register(rnd)
			fault(rnd, &x)
		}
		if b, e := reg.Put([]byte("ahead"), x); e != api.OK && len(b) > 0 {
			t.Fatalf("P0.2: Put of %v: %x beside %v", x, b, e)
		}
		b := make([]byte, rnd.Intn(14))
		for i := range b {
			b[i] = byte(rnd.Intn(3))
		}
		if r, e := get(b); e != api.OK && e != api.ErrLong && !same(r, api.Reg{}) {
			t.Fatalf("P0.2: Get of %x: %v beside %v", b, r, e)
		}
	}
}

func TestCallsLeaveWhatIsHandedIn(t *testing.T) {
	rnd := rand.New(rand.NewSource(9))
	for at := range 3000 {
		x := clone(register(rnd), 3)
		if at%3 == 0 {
			x = clone(odd(rnd), 3)
		}
		before := seen(x)
		room := append([]byte("ahead"), bytes.Repeat([]byte{99}, 2000)...)
		ask(room[:5], x)
		if !same(seen(x), before) {
			t.Fatalf("P0.3: a register that was handed in, or the room behind its lists, is changed: %v", x)
		}
		if string(room[:5]) != "ahead" || bytes.Count(room[5:], []byte{99}) != 2000 {
			t.Fatalf("P0.3: bytes that were handed in, or the room behind them, are changed: %x", room)
		}
	}
	a, b := clone(plain(), 3), clone(largest(), 3)
	beforeA, beforeB := seen(a), seen(b)
	reg.Same(a, b)
	reg.SameReply(a.Done[0].Reply, b.Done[0].Reply)
	if !same(seen(a), beforeA) || !same(seen(b), beforeB) {
		t.Error("P0.3: registers that were held against each other are changed")
	}
}

func TestAnswersAreNewMemory(t *testing.T) {
	for _, x := range []func() api.Reg{plain, tomb, largest, func() api.Reg { return api.Reg{} }} {
		r, ahead := x(), append(make([]byte, 0, 3000), 7)
		call := func() answers { return ask(ahead, r) }
		// What is held against is never an answer, which could share memory, too.
		wrong := func(y answers) bool {
			return !same(y.clone, x()) || !same(y.got, x()) || string(y.b) != "\x07"+string(putModel(x()))
		}
		first, second := call(), call()
		// Another register's answers go elsewhere, too.
		ask(ahead, api.Reg{Kind: api.Live, Inc: 99, Vars: []int64{98, 97}})
		if wrong(first) || wrong(second) {
			t.Error("P0.3: a later call changes what a first one answered")
		}
		spoil(first.b)
		spoil(first.got)
		spoil(first.clone)
		if !same(r, x()) || string(ahead) != "\x07" {
			t.Error("P0.3: an answer shares memory with what was handed in")
		}
		if wrong(second) {
			t.Error("P0.3: two answers share memory")
		}
		if wrong(call()) {
			t.Error("P0.3: an answer is kept")
		}
		spoil(r)
		spoil(ahead)
		if wrong(second) {
			t.Error("P0.3: what was handed in is kept in an answer")
		}
	}
}

func TestWhatIsGotLeavesItsBytes(t *testing.T) {
	b := putModel(plain())
	p := pack.New(b)
	r := reg.Get(p)
	clear(b)
	spoil(b)
	if !same(r, plain()) {
		t.Errorf("P0.3: what was got changes with its bytes: %v", r)
	}
}

func TestListsOfOneAnswerShareNothing(t *testing.T) {
	got, _ := get(putModel(largest()))
	for name, r := range map[string]api.Reg{"Get": got, "Clone": reg.Clone(largest())} {
		places := map[uintptr]bool{}
		visit := func(list reflect.Value) {
			l := list.Slice(0, list.Cap())
			for i := range l.Len() {
				at := l.Index(i).Addr().Pointer()
				if places[at] {
					t.Fatalf("P0.3: two lists of one answer of %s share memory", name)
				}
				places[at] = true
			}
		}
		visit(reflect.ValueOf(r.Vars))
		visit(reflect.ValueOf(r.Done))
		visit(reflect.ValueOf(r.Out))
		visit(reflect.ValueOf(r.Marks))
		for _, d := range r.Done {
			visit(reflect.ValueOf(d.Reply.Vars))
		}
	}
}

// alikeAnswers tells whether two calls were answered the same.
func alikeAnswers(p, q answers) bool {
	return p.may == q.may && p.put == q.put && p.end == q.end && p.same == q.same && p.reply == q.reply &&
		same(p.b, q.b) && same(p.got, q.got) && same(p.clone, q.clone)
}

func TestNilIsAsEmpty(t *testing.T) {
	empty := func(r api.Reg) api.Reg { return clone(r, 0) }
	for _, x := range []api.Reg{
		{},
		{Inc: 1},
		{Kind: api.Live, Inc: 1},
		{Kind: api.Tomb, Inc: 1, Last: 3},
		{Kind: api.Live, Inc: 1, Done: []api.Done{{Client: 1, Seq: 1}}},
		{Kind: api.Live},
	} {
		y := empty(x)
		if y.Vars == nil || y.Out == nil {
			t.Fatal("an empty list is nil")
		}
		if p, q := ask(nil, x), ask([]byte{}, y); !alikeAnswers(p, q) {
			t.Errorf("P0.4: of nil lists %v, of empty ones %v", p, q)
		}
		if !reg.Same(x, y) || !reg.Same(y, x) {
			t.Errorf("P0.4: Same of %v with nil lists and with empty ones", x)
		}
	}
	if !reg.May(empty(api.Reg{})) {
		t.Error("P0.4: May of an absent register with empty lists")
	}
	if !reg.SameReply(api.Reply{}, api.Reply{Vars: []int64{}}) || !reg.SameReply(api.Reply{Vars: []int64{}}, api.Reply{}) {
		t.Error("P0.4: SameReply of nil variables and of empty ones")
	}
	_, e := get(nil)
	if _, f := get([]byte{}); e != api.ErrShort || f != api.ErrShort {
		t.Errorf("P0.4: Get of nil: %v, of empty bytes: %v", e, f)
	}
}

func TestAnswersHangOnArgumentsAlone(t *testing.T) {
	rnd := rand.New(rand.NewSource(10))
	var l []api.Reg
	var first []answers
	for at := range 3000 {
		x := register(rnd)
		if at%2 == 0 {
			fault(rnd, &x)
		}
		l = append(l, x)
		first = append(first, ask([]byte{1}, x))
	}
	for _, i := range rnd.Perm(len(l)) {
		// The same numbers elsewhere, with more room behind them.
		if got := ask(withRoom([]byte{1}, 99), clone(l[i], 9)); !alikeAnswers(got, first[i]) {
			t.Fatalf("P0.5: of %v: %v, before %v", l[i], got, first[i])
		}
	}
}
