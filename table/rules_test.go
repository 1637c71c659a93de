package table_test

import (
	"bytes"
	"math"
	"math/rand"
	"reflect"
	"testing"

	"scrutineer/api"
	"scrutineer/table"
)

// answers are all calls' answers about a contract.
type answers struct {
	may   bool
	fired fired
	b     []byte
	put   api.Errno
	t     api.Table
	get   api.Errno
}

// ask calls all that there is.
func ask(x api.Table, state, action, party int, vars []int64, arg int64) answers {
	y := answers{may: table.May(x), fired: fire(x, state, action, party, vars, arg)}
	y.b, y.put = table.Put(x)
	y.t, y.get = table.Get(y.b)
	return y
}

// clone is the same contract in new memory, with so much room behind each list.
func clone(x api.Table, room int) api.Table {
	toks := func(l []api.Tok) []api.Tok { return append(make([]api.Tok, 0, len(l)+room), l...) }
	y := api.Table{States: x.States, Vars: x.Vars, Rules: make([]api.Rule, 0, len(x.Rules)+room)}
	for _, r := range x.Rules {
		s := r
		s.Guard = toks(r.Guard)
		s.Sets = make([]api.Set, 0, len(r.Sets)+room)
		for _, z := range r.Sets {
			s.Sets = append(s.Sets, api.Set{Var: z.Var, Value: toks(z.Value)})
		}
		s.Emits = make([]api.Emit, 0, len(r.Emits)+room)
		for _, m := range r.Emits {
			s.Emits = append(s.Emits, api.Emit{Target: m.Target, Action: m.Action, Arg: toks(m.Arg)})
		}
		y.Rules = append(y.Rules, s)
	}
	return y
}

// whole is all that a value's lists have, the room behind their ends too.
func whole(x reflect.Value, see func(number reflect.Value)) {
	switch x.Kind() {
	case reflect.Slice:
		x = x.Slice(0, x.Cap())
		for i := range x.Len() {
			whole(x.Index(i), see)
		}
	case reflect.Struct:
		for i := range x.NumField() {
			whole(x.Field(i), see)
		}
	default:
		see(x)
	}
}

// seen are all numbers that a value has, in order, the room behind the ends of its lists too.
func seen(x any) []int64 {
	var l []int64
	whole(reflect.ValueOf(x), func(n reflect.Value) {
		if n.CanInt() {
			l = append(l, n.Int())
		} else {
			l = append(l, int64(n.Uint()))
		}
	})
	return l
}

// spoil writes into all lists of a value, and into the room behind their ends.
func spoil(x any) {
	whole(reflect.ValueOf(x), func(n reflect.Value) {
		switch {
		case n.CanInt() && n.CanSet():
			n.SetInt(n.Int() + 77)
		case n.CanUint() && n.CanSet():
			n.SetUint(n.Uint() + 77)
		}
	})
}

// odd is a contract of which mostly nothing may be.
func odd(rnd *rand.Rand) api.Table {
	number := func() int {
		if rnd.Intn(3) > 0 {
			return rnd.Intn(4)
		}
		return numbers[rnd.Intn(len(numbers))]
	}
	toks := func() []api.Tok {
		l := make([]api.Tok, rnd.Intn(4))
		for i := range l {
			l[i] = api.Tok{Op: uint8(rnd.Intn(14)), N: int64(number())}
		}
		return l
	}
	t := api.Table{States: number(), Vars: number()}
	for range rnd.Intn(4) {
		r := api.Rule{From: number(), Action: number(), Party: number(), To: number(), Guard: toks()}
		for range rnd.Intn(3) {
			r.Sets = append(r.Sets, api.Set{Var: number(), Value: toks()})
		}
		for range rnd.Intn(3) {
			r.Emits = append(r.Emits, api.Emit{Target: uint8(number()), Action: number(), Arg: toks()})
		}
		t.Rules = append(t.Rules, r)
	}
	return t
}

func TestEveryCallEnds(t *testing.T) {
	defer func() {
		if p := recover(); p != nil {
			t.Errorf("P0.1: a call panics: %v", p)
		}
	}()
	rnd := rand.New(rand.NewSource(5))
	number := func() int { return numbers[rnd.Intn(len(numbers))] }
	for range 100_000 {
		x := odd(rnd)
		ask(x, number(), number(), number(), values(rnd, rnd.Intn(12)), int64(number()))
		b := make([]byte, rnd.Intn(40))
		rnd.Read(b)
		for i := range b {
			b[i] >>= rnd.Intn(8)
		}
		table.Get(b)
	}
	for _, n := range []int{33, 1000, 100_000} {
		l := make([]api.Tok, n)
		for _, x := range []api.Table{
			{States: n, Vars: n, Rules: make([]api.Rule, n)},
			{States: 1, Vars: n, Rules: make([]api.Rule, 1)},
			{States: 1, Vars: 8, Rules: []api.Rule{{Guard: l}}},
			{States: 1, Vars: 8, Rules: []api.Rule{{Sets: make([]api.Set, n)}}},
			{States: 1, Vars: 8, Rules: []api.Rule{{Sets: []api.Set{{Value: l}}}}},
			{States: 1, Vars: 8, Rules: []api.Rule{{Emits: make([]api.Emit, n)}}},
			{States: 1, Vars: 8, Rules: []api.Rule{{Emits: []api.Emit{{Arg: l}}}}},
		} {
			ask(x, 0, 0, 0, make([]int64, n), 0)
			ask(x, 0, 0, 0, make([]int64, 8), 0)
		}
		table.Get(bytes.Repeat([]byte{0xff}, n))
		table.Get(bytes.Repeat([]byte{1}, n))
		table.Get(make([]byte, n))
	}
	ask(api.Table{States: math.MaxInt, Vars: math.MinInt}, math.MinInt, math.MinInt, math.MinInt, nil, math.MinInt64)
}

func TestErrorsStandAlone(t *testing.T) {
	rnd := rand.New(rand.NewSource(6))
	for at := range 20_000 {
		x := odd(rnd)
		if at%2 == 0 {
			x = contract(rnd)
		}
		y := ask(x, rnd.Intn(2), rnd.Intn(2)*31, rnd.Intn(2)*7, values(rnd, x.Vars&7), 3)
		if z := y.fired; z.e != api.OK && (z.state != 0 || len(z.vars) > 0 || len(z.cells) > 0) {
			t.Fatalf("P0.2: Fire of %v: beside an error %v", x, z)
		}
		if y.put != api.OK && len(y.b) > 0 {
			t.Fatalf("P0.2: Put of %v: %x beside %v", x, y.b, y.put)
		}
		b := make([]byte, rnd.Intn(12))
		for i := range b {
			b[i] = byte(rnd.Intn(3))
		}
		if z, e := table.Get(b); e != api.OK && !same(z, api.Table{}) {
			t.Fatalf("P0.2: Get of %x: %v beside %v", b, z, e)
		}
	}
}

func TestCallsLeaveWhatIsHandedIn(t *testing.T) {
	rnd := rand.New(rand.NewSource(7))
	for range 3000 {
		x := clone(contract(rnd), 3)
		if rnd.Intn(3) == 0 {
			x = clone(odd(rnd), 3)
		}
		state, action, party := 0, 0, 0
		if len(x.Rules) > 0 {
			state, action, party = x.Rules[0].From, x.Rules[0].Action, x.Rules[0].Party
		}
		room := values(rnd, max(0, min(x.Vars, 8))+3)
		vars := room[:len(room)-3]
		before, beforeVars := seen(x), seen(room)
		ask(x, state, action, party, vars, 2)
		if !same(seen(x), before) || !same(seen(room), beforeVars) {
			t.Fatalf("P0.3: what was handed in, or the room behind its lists, is changed: %v, %v", x, room)
		}
	}
	b, _ := table.Put(sale())
	room := append(bytes.Clone(b), "room"...)
	table.Get(room[:len(b)])
	if string(room) != string(b)+"room" {
		t.Error("P0.3: bytes that were handed in, or the room behind them, are changed")
	}
}

func TestAnswersAreNewMemory(t *testing.T) {
	x, vars := sale(), []int64{10, 20}
	b := putModel(x)
	call := func() answers {
		y := ask(x, 0, 1, 1, vars, 11)
		y.t, y.get = table.Get(b)
		return y
	}
	// What is held against is never an answer, which could share memory, too.
	wrong := func(y answers) bool {
		want := fireModel(sale(), 0, 1, 1, []int64{10, 20}, 11)
		return !same(y.fired, want) || !same(y.t, sale()) || string(y.b) != string(putModel(sale()))
	}
	first, second := call(), call()
	if wrong(first) || wrong(second) {
		t.Error("P0.3: a second call changes what a first one answered")
	}
	// Another contract's answers go elsewhere, too.
	ask(plain(), 1, 3, 4, []int64{1, 2}, 5)
	table.Get(putModel(plain()))
	if wrong(first) || wrong(second) {
		t.Error("P0.3: calls about another contract change what was answered")
	}
	spoil(first.fired.vars)
	spoil(first.fired.cells)
	spoil(first.b)
	spoil(first.t)
	if !same(x, sale()) || !same(vars, []int64{10, 20}) || string(b) != string(putModel(sale())) {
		t.Error("P0.3: an answer shares memory with what was handed in")
	}
	if wrong(second) {
		t.Error("P0.3: two answers share memory")
	}
	if wrong(call()) {
		t.Error("P0.3: an answer is kept")
	}
	// An action that sets nothing answers all variables anew, too.
	_, after, _, _ := table.Fire(x, 1, 2, 1, vars, 0)
	if spoil(after); vars[0] != 10 || vars[1] != 20 {
		t.Error("P0.3: Fire hands out the variables that it was handed")
	}
}

func TestListsOfOneAnswerShareNothing(t *testing.T) {
	b, _ := table.Put(largest())
	got, _ := table.Get(b)
	places := map[uintptr]bool{}
	visit := func(l reflect.Value) {
		for i := range l.Cap() {
			at := l.Slice(0, l.Cap()).Index(i).Addr().Pointer()
			if places[at] {
				t.Fatal("P0.3: two lists of one answer of Get share memory")
			}
			places[at] = true
		}
	}
	for _, r := range got.Rules {
		visit(reflect.ValueOf(r.Guard))
		for _, s := range r.Sets {
			visit(reflect.ValueOf(s.Value))
		}
		for _, m := range r.Emits {
			visit(reflect.ValueOf(m.Arg))
		}
	}
	for _, r := range got.Rules {
		for i := range cap(r.Sets) {
			at := reflect.ValueOf(&r.Sets[:cap(r.Sets)][i]).Pointer()
			if places[at] {
				t.Fatal("P0.3: two lists of Sets of one answer of Get share memory")
			}
			places[at] = true
		}
		for i := range cap(r.Emits) {
			at := reflect.ValueOf(&r.Emits[:cap(r.Emits)][i]).Pointer()
			if places[at] {
				t.Fatal("P0.3: two lists of Emits of one answer of Get share memory")
			}
			places[at] = true
		}
	}
}

func TestCallsKeepNothing(t *testing.T) {
	x, vars := sale(), []int64{10, 20}
	first := ask(x, 0, 1, 1, vars, 11)
	want := ask(sale(), 0, 1, 1, []int64{10, 20}, 11)
	x.Rules[0].To, x.Rules[0].Guard[0].Op, vars[1] = 2, api.TokArg, 99
	if !same(first.fired, want.fired) || !same(first.t, want.t) || !same(first.b, want.b) {
		t.Error("P0.3: an answer changes with what was handed in")
	}
	b := bytes.Clone(want.b)
	got, _ := table.Get(b)
	clear(b)
	if !same(got, sale()) {
		t.Error("P0.3: what was got changes with its bytes")
	}
	if second := ask(x, 0, 1, 1, vars, 11); second.fired.rule != 2 || second.fired.vars[1] != 100 {
		t.Errorf("P0.3: what was handed in is kept: %v", second.fired)
	}
}

func TestNilIsAsEmpty(t *testing.T) {
	asNil := api.Table{States: 2, Rules: []api.Rule{{To: 1}}}
	asEmpty := api.Table{States: 2, Rules: []api.Rule{{To: 1, Guard: []api.Tok{}, Sets: []api.Set{}, Emits: []api.Emit{}}}}
	for _, x := range []struct{ n, m api.Table }{
		{asNil, asEmpty},
		{api.Table{States: 1}, api.Table{States: 1, Rules: []api.Rule{}}},
		{
			api.Table{States: 1, Vars: 1, Rules: []api.Rule{{Sets: []api.Set{{}}}}},
			api.Table{States: 1, Vars: 1, Rules: []api.Rule{{Sets: []api.Set{{Value: []api.Tok{}}}}}},
		},
		{
			api.Table{States: 1, Rules: []api.Rule{{Emits: []api.Emit{{}}}}},
			api.Table{States: 1, Rules: []api.Rule{{Emits: []api.Emit{{Arg: []api.Tok{}}}}}},
		},
	} {
		p, q := ask(x.n, 0, 0, 0, nil, 1), ask(x.m, 0, 0, 0, []int64{}, 1)
		if p.may != q.may || p.put != q.put || p.get != q.get || !same(p.fired, q.fired) || !same(p.b, q.b) || !same(p.t, q.t) {
			t.Errorf("P0.4: of nil lists %v, of empty ones %v", p, q)
		}
	}
	if p := ask(asNil, 0, 0, 0, nil, 1); !p.may || p.fired.state != 1 || p.fired.e != api.OK {
		t.Errorf("P0.4: of nil lists: %v", p)
	}
	_, e := table.Get(nil)
	if _, g := table.Get([]byte{}); e != api.ErrShort || g != api.ErrShort {
		t.Errorf("P0.4: Get of nil: %v, of empty bytes: %v", e, g)
	}
}

func TestAnswersHangOnArgumentsAlone(t *testing.T) {
	type call struct {
		x                    api.Table
		state, action, party int
		vars                 []int64
		y                    answers
	}
	rnd := rand.New(rand.NewSource(8))
	var calls []call
	for range 2000 {
		x := contract(rnd)
		z := call{x: x, state: rnd.Intn(x.States), action: rnd.Intn(2) * 31, party: rnd.Intn(2) * 7, vars: values(rnd, x.Vars)}
		z.y = ask(x, z.state, z.action, z.party, z.vars, 2)
		calls = append(calls, z)
	}
	for _, i := range rnd.Perm(len(calls)) {
		z := calls[i]
		// The same numbers elsewhere, with more room behind them.
		got := ask(clone(z.x, 9), z.state, z.action, z.party, append(make([]int64, 0, 99), z.vars...), 2)
		if got.may != z.y.may || got.put != z.y.put || got.get != z.y.get || !same(got.fired, z.y.fired) || !same(got.b, z.y.b) || !same(got.t, z.y.t) {
			t.Fatalf("P0.5: of %v: %v, before %v", z.x, got, z.y)
		}
	}
}
