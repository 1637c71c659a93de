package round_test

import (
	"fmt"
	"math"
	"math/rand"
	"reflect"
	"slices"
	"testing"

	"scrutineer/api"
	"scrutineer/msg"
	"scrutineer/round"
)

// question is what is asked of the layer at once: a configuration, a key, ballots, a register; a round, and an answer to it.
type question struct {
	c       api.Conf
	key     uint8
	b, next api.Ballot
	r       api.Reg
	all     bool
	x       api.Round
	m       api.Msg
}

// answers are all calls' answers to that.
type answers struct {
	Begun, Known, Wrote, Told api.Round
	Msgs                      []api.Msg
	Errs                      [3]api.Errno
}

// ask calls all that there is.
func ask(q question) answers {
	var a answers
	a.Begun, a.Errs[0] = round.Begin(q.c, q.key, q.b, q.all)
	a.Known, a.Errs[1] = round.Known(q.c, q.key, q.b, q.r, q.all)
	a.Wrote, a.Errs[2] = round.Write(q.x, q.r, q.next)
	a.Msgs = round.Ask(q.x)
	a.Told = round.Told(q.x, q.m)
	return a
}

// alike tells whether two rows of answers are the same.
func alike(a, b answers) bool {
	return same(a.Begun, b.Begun) && same(a.Known, b.Known) && same(a.Wrote, b.Wrote) && same(a.Told, b.Told) &&
		slices.EqualFunc(a.Msgs, b.Msgs, msg.Same) && a.Errs == b.Errs
}

// oddNodes are nodes of which mostly some may not be.
func oddNodes(rnd *rand.Rand) []uint8 {
	l := upTo(rnd.Intn(7))
	for range rnd.Intn(3) {
		l = append(l, uint8(rnd.Intn(256)))
	}
	if rnd.Intn(30) == 0 {
		l = make([]uint8, rnd.Intn(2000))
	}
	return l
}

// odd is a question of which mostly nothing may be.
func odd(rnd *rand.Rand) question {
	oddConf := func() api.Conf {
		return api.Conf{C: rnd.Uint64() >> rnd.Intn(65), Old: oddNodes(rnd), New: oddNodes(rnd)}
	}
	numbers := []uint64{0, 1, 5, 1 << 63, math.MaxUint64}
	q := question{c: oddConf(), key: uint8(rnd.Intn(256)), b: pick(rnd, edges()), next: pick(rnd, edges()), r: pick(rnd, noRegs())}
	q.x = api.Round{
		Key: uint8(rnd.Intn(256)), Conf: oddConf(), B: pick(rnd, edges()), All: rnd.Intn(2) == 0, Phase: uint8(rnd.Intn(7)),
		Got: pick(rnd, numbers), Acc: pick(rnd, edges()), Reg: pick(rnd, noRegs()), Next: pick(rnd, edges()), Max: pick(rnd, numbers),
	}
	q.m = api.Msg{
		Kind: uint8(rnd.Intn(6)), From: uint8(rnd.Intn(256)), To: uint8(rnd.Intn(256)), Key: uint8(rnd.Intn(256)), Conf: pick(rnd, numbers),
		B: pick(rnd, edges()), OK: rnd.Intn(2) == 0, Acc: pick(rnd, edges()), Reg: pick(rnd, noRegs()), Next: pick(rnd, edges()), Max: pick(rnd, numbers),
	}
	if rnd.Intn(2) == 0 {
		q.m = yes(q.x, uint8(rnd.Intn(256)), pick(rnd, edges()), pick(rnd, regs()))
	}
	return q
}

// good is a question of which all may be, about a round in some phase.
func good(t *testing.T, rnd *rand.Rand) question {
	t.Helper()
	q := question{c: pick(rnd, confs()), key: uint8(rnd.Intn(api.MaxKeys)), b: b7, next: b8, r: pick(rnd, regs()), all: rnd.Intn(2) == 0}
	q.x = randomRound(t, rnd)
	q.m = randomAnswer(rnd, q.x)
	for range rnd.Intn(3) {
		q.x = round.Told(q.x, randomAnswer(rnd, q.x))
	}
	switch rnd.Intn(6) {
	case 0:
		q.x = pick(rnd, heard(t))
	case 1:
		q.x.Reg = largest()
	case 2:
		q.next = pick(rnd, edges())
	}
	return q
}

func TestEveryCallEnds(t *testing.T) {
	defer func() {
		if p := recover(); p != nil {
			t.Errorf("P0.1: a call panics: %v", p)
		}
	}()
	ask(question{})
	rnd := rand.New(rand.NewSource(4))
	for range 6000 {
		ask(odd(rnd))
	}
	for n := range 256 {
		i := uint8(n)
		x := asking(t, six(), 1, b7, true)
		x.Phase = i
		ask(question{c: five(), key: i, b: under(0, i, 0), x: x, m: yes(x, i, b0, api.Reg{})})
		x.Key, x.B.Node = i, i
		ask(question{c: stable(uint64(i), i), key: i, b: under(0, i, 0), x: x, m: yes(x, i, b0, api.Reg{})})
	}
	for _, n := range []int{0, 1, 63, 64, 65, 100_000} {
		r := api.Reg{Kind: api.Live, Inc: 1, Vars: make([]int64, n), Done: make([]api.Done, n), Out: make([]api.Cell, n), Marks: make([]api.Mark, n)}
		for phase := range uint8(7) {
			x := asking(t, six(), 1, b7, true)
			x.Phase, x.Reg = phase, r
			ask(question{c: five(), b: b7, r: r, x: x, m: yes(x, 1, b5, r)})
			for c := range uint64(2) {
				x := api.Round{Conf: api.Conf{C: c, Old: make([]uint8, n), New: make([]uint8, n)}, B: b7, Phase: phase}
				ask(question{c: x.Conf, b: b7, x: x, m: yes(x, 0, b5, api.Reg{})})
			}
		}
	}
}

func TestErrorsStandAlone(t *testing.T) {
	rnd := rand.New(rand.NewSource(5))
	met := map[string]bool{}
	for range 6000 {
		q := odd(rnd)
		if rnd.Intn(2) == 0 {
			q = good(t, rnd)
		}
		a := ask(q)
		if a.Errs[0] != api.OK && !same(a.Begun, api.Round{}) || a.Errs[1] != api.OK && !same(a.Known, api.Round{}) {
			t.Fatalf("P0.2: beside errors %v: %v, %v", a.Errs, a.Begun, a.Known)
		}
		// The chapter says so: with an error it is the round as it was.
		if a.Errs[2] != api.OK && !same(a.Wrote, q.x) {
			t.Fatalf("P0.2: Write of %v: %v beside %v", q.x, a.Wrote, a.Errs[2])
		}
		// Of a round that isn't Heard that is told, whatever else may not be.
		if (a.Errs[2] == api.ErrState) != (q.x.Phase != api.Heard) {
			t.Fatalf("P0.2: Write of %v: %v", q.x, a.Errs[2])
		}
		met[fmt.Sprint(a.Errs)] = true
	}
	if len(met) < 6 {
		t.Errorf("P0.2: only these errors are met: %v", met)
	}
}

// places are the places of all that a value's lists have, the room behind their ends too.
func places(x reflect.Value) []reflect.Value {
	var l []reflect.Value
	switch x.Kind() {
	case reflect.Slice:
		x = x.Slice(0, x.Cap())
		for i := range x.Len() {
			l = append(l, places(x.Index(i))...)
		}
	case reflect.Array:
		for i := range x.Len() {
			l = append(l, places(x.Index(i))...)
		}
	case reflect.Struct:
		for i := range x.NumField() {
			l = append(l, places(x.Field(i))...)
		}
	default:
		l = append(l, x)
	}
	return l
}

// seen tells what stands at all places of a value, its lists, and the room behind their ends.
func seen(x any) string {
	var b []byte
	for _, place := range places(reflect.ValueOf(x)) {
		b = fmt.Append(b, place, " ")
	}
	return string(b)
}

// spoil writes into all lists of a value, and into the room behind their ends.
func spoil(x any) {
	for _, place := range places(reflect.ValueOf(x)) {
		switch {
		case !place.CanSet():
		case place.CanUint():
			place.SetUint(place.Uint() ^ 77)
		case place.CanInt():
			place.SetInt(place.Int() ^ 77)
		}
	}
}

// roomy is a list in new memory, never nil, with room behind its end, where something stands.
func roomy[T any](l []T, behind T) []T {
	return append(append(make([]T, 0, len(l)+2), l...), behind)[:len(l)]
}

// roomyReg is the same register in new memory, with room behind each list.
func roomyReg(r api.Reg) api.Reg {
	r.Vars = roomy(r.Vars, 77)
	r.Done = roomy(r.Done, api.Done{Client: 77})
	for i := range r.Done {
		vars := &r.Done[i].Reply.Vars
		*vars = roomy(*vars, 77)
	}
	r.Out = roomy(r.Out, api.Cell{N: 77})
	r.Marks = roomy(r.Marks, api.Mark{Inc: 77})
	return r
}

// roomyConf is the same configuration in new memory, with room behind each list.
func roomyConf(c api.Conf) api.Conf {
	return api.Conf{C: c.C, Old: roomy(c.Old, 77), New: roomy(c.New, 77)}
}

// roomyQuestion is the same question in new memory, with room behind each list.
func roomyQuestion(q question) question {
	q.c, q.r = roomyConf(q.c), roomyReg(q.r)
	q.x.Conf, q.x.Reg = roomyConf(q.x.Conf), roomyReg(q.x.Reg)
	q.m.Reg = roomyReg(q.m.Reg)
	return q
}

// spoilQuestion writes into all lists of a question.
func spoilQuestion(q question) {
	for _, part := range []any{q.c, q.r, q.x, q.m} {
		spoil(part)
	}
}

// seenQuestion tells what stands at all places of a question.
func seenQuestion(q question) string {
	return seen(q.c) + seen(q.r) + seen(q.x) + seen(q.m)
}

// questions are questions about rounds in each phase, behind which something else is each time.
func questions(t *testing.T) []question {
	t.Helper()
	rnd := rand.New(rand.NewSource(6))
	var l []question
	for range 700 {
		l = append(l, good(t, rnd))
	}
	for _, x := range heard(t) {
		next := under(math.MaxUint64, 3, 1)
		l = append(l, question{c: six(), key: 1, b: b7, next: next, r: largest(), x: x}, question{c: five(), b: b7, next: b7, r: plain(), x: x})
	}
	x, y := asking(t, six(), 1, b7, false), writing(t, six(), 1, b7, true, plain(), b8)
	for _, r := range regs() {
		l = append(l,
			question{c: six(), b: b7, r: r, x: x, m: yes(x, 5, b5, r)},
			question{c: five(), b: b7, r: r, x: toldAll(x, yes(x, 1, b4, plain())), m: yes(x, 2, b5, r)},
			question{c: five(), b: b7, r: r, x: toldAll(x, yes(x, 1, b6, plain())), m: yes(x, 2, b5, r)},
			question{c: five(), b: b7, r: r, x: toldAll(x, yes(x, 1, b4, plain())), m: no(x, 2, 9)},
			question{c: six(), b: b7, r: r, x: y, m: yes(y, 1, b0, api.Reg{})},
			question{c: six(), b: b7, r: r, x: y, m: no(y, 1, 9)},
		)
	}
	return l
}

func TestCallsLeaveWhatIsHandedIn(t *testing.T) {
	for _, q := range questions(t) {
		in := roomyQuestion(q)
		before := seenQuestion(in)
		ask(in)
		if seenQuestion(in) != before {
			t.Fatalf("P0.3: what is handed in, or the room behind its lists, is changed: %v", q)
		}
	}
}

func TestAnswersAreNewMemory(t *testing.T) {
	for _, q := range questions(t) {
		// What is held against is asked of other memory.
		want := ask(roomyQuestion(q))
		in := roomyQuestion(q)
		before := seenQuestion(in)
		first, second := ask(in), ask(in)
		if !alike(first, want) || !alike(second, want) {
			t.Fatalf("P0.5: of %v: %v, then %v, not %v", q, first, second, want)
		}
		spoil(first)
		if seenQuestion(in) != before {
			t.Fatalf("P0.3: an answer to %v shares memory with what was handed in", q)
		}
		if !alike(second, want) {
			t.Fatalf("P0.3: two answers to %v share memory: %v, not %v", q, second, want)
		}
		if third := ask(in); !alike(third, want) {
			t.Fatalf("P0.3: an answer to %v is kept: %v, not %v", q, third, want)
		}
		spoilQuestion(in)
		if !alike(second, want) {
			t.Fatalf("P0.3: what was handed in is kept in an answer to %v: %v, not %v", q, second, want)
		}
	}
}

// lists tells where each part of a value's lists stands, and the room behind their ends.
func lists(x reflect.Value, met func(at uintptr)) {
	switch x.Kind() {
	case reflect.Slice:
		l := x.Slice(0, x.Cap())
		for i := range l.Len() {
			met(l.Index(i).Addr().Pointer())
			if l.Index(i).Kind() == reflect.Struct {
				for k := range l.Index(i).NumField() {
					lists(l.Index(i).Field(k), met)
				}
			}
		}
	case reflect.Struct:
		for i := range x.NumField() {
			lists(x.Field(i), met)
		}
	}
}

func TestListsOfOneAnswerShareNothing(t *testing.T) {
	// What is handed in has the same memory in many places.
	vars, nodes := []int64{1, 2}, upTo(6)
	r := plain()
	r.Vars = vars
	r.Done = []api.Done{{Client: 1, Seq: 1, Reply: api.Reply{Vars: vars}}, {Client: 2, Seq: 1, Reply: api.Reply{Vars: vars}}}
	c := api.Conf{C: 5, Old: nodes[:5], New: nodes}
	x, e := round.Known(c, 1, b7, r, true)
	y, f := round.Write(must(t, x, e), x.Reg, b8)
	must(t, y, f)
	x.Reg, x.Conf = r, c
	for _, q := range []question{
		{c: c, key: 1, b: b7, r: r, x: x, next: b8},
		{c: c, key: 1, b: b7, r: x.Reg, x: y, m: yes(y, 1, b0, api.Reg{})},
		{c: c, key: 1, b: b7, r: r, x: asking(t, c, 1, b7, false), m: yes(asking(t, c, 1, b7, false), 1, b5, r)},
	} {
		a := ask(q)
		for _, one := range []any{a.Begun, a.Known, a.Wrote, a.Told, a.Msgs} {
			taken := map[uintptr]bool{}
			lists(reflect.ValueOf(one), func(at uintptr) {
				if taken[at] {
					t.Fatalf("P0.3: lists of one answer share memory: %v", one)
				}
				taken[at] = true
			})
		}
	}
}

func TestNilIsAsEmpty(t *testing.T) {
	for _, q := range append(questions(t), question{}) {
		// Where a list is nil, the other one is empty.
		if a, b := ask(q), ask(roomyQuestion(q)); !alike(a, b) {
			t.Fatalf("P0.4: of nil lists %v, of empty ones %v", a, b)
		}
	}
}

func TestAnswersHangOnArgumentsAlone(t *testing.T) {
	rnd := rand.New(rand.NewSource(7))
	var l []question
	var first []answers
	for i := range 1500 {
		q := good(t, rnd)
		if i%3 == 0 {
			q = odd(rnd)
		}
		l = append(l, q)
		first = append(first, ask(q))
	}
	for _, i := range rnd.Perm(len(l)) {
		// The same elsewhere, with room behind it.
		if got := ask(roomyQuestion(l[i])); !alike(got, first[i]) {
			t.Fatalf("P0.5: of %v: %v, before %v", l[i], got, first[i])
		}
	}
}

func TestAZeroRound(t *testing.T) {
	// P0.6 lets these panic, too.
	defer func() { _ = recover() }()
	x, e := round.Write(api.Round{}, api.Reg{}, b0)
	if e != api.ErrState || !same(x, api.Round{}) || len(round.Ask(api.Round{})) > 0 || !same(round.Told(api.Round{}, api.Msg{}), api.Round{}) {
		t.Errorf("P0.6: a zero round: %v, %v", x, e)
	}
}
