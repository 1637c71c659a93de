package table_test

import (
	"encoding/binary"
	"math"
	"math/rand"
	"reflect"
	"testing"

	"scrutineer/api"
	"scrutineer/expr"
	"scrutineer/table"
)

// numbers are those at the edges of 64 bits, and of what a contract may have.
var numbers = []int{math.MinInt, math.MinInt + 1, -1, 0, 1, 2, 3, 4, 5, 7, 8, 9, 15, 16, 24, 25, 31, 32, 33, 255, 256, 1000, 1001, math.MaxInt - 1, math.MaxInt}

// c is a formula of a constant alone.
func c(n int64) []api.Tok { return []api.Tok{{Op: api.TokConst, N: n}} }

// v is a formula of a variable alone.
func v(n int64) []api.Tok { return []api.Tok{{Op: api.TokVar, N: n}} }

// a is a formula of the argument alone.
func a() []api.Tok { return []api.Tok{{Op: api.TokArg}} }

// f is what two formulas come to by a sign.
func f(x, y []api.Tok, op uint8) []api.Tok {
	var l []api.Tok
	l = append(l, x...)
	l = append(l, y...)
	return append(l, api.Tok{Op: op})
}

// spill is a formula of so many signs, of a number that there is no room for, if it has three or more of them.
func spill(signs int) []api.Tok {
	l := f(c(math.MaxInt64), c(1), api.TokAdd)
	for len(l) < signs {
		l = append(l, api.Tok{Op: api.TokNot})
	}
	return l[:signs]
}

// nots is a formula of so many signs, that comes to 0 or 1.
func nots(signs int) []api.Tok {
	l := a()
	for len(l) < signs {
		l = append(l, api.Tok{Op: api.TokNot})
	}
	return l
}

// mayModel tells whether a contract may be: number by number, as the chapter names them.
func mayModel(t api.Table) bool {
	ok := t.States >= 1 && t.States <= 32 && t.Vars >= 0 && t.Vars <= 8 && len(t.Rules) <= 32
	for _, r := range t.Rules {
		ok = ok && r.From >= 0 && r.From < t.States && r.To >= 0 && r.To < t.States
		ok = ok && r.Action >= 0 && r.Action <= 31 && r.Party >= 0 && r.Party <= 7
		ok = ok && (len(r.Guard) == 0 || expr.May(r.Guard, t.Vars)) && len(r.Sets) <= 8 && len(r.Emits) <= 4
		for i, s := range r.Sets {
			ok = ok && s.Var >= 0 && s.Var < t.Vars && expr.May(s.Value, t.Vars)
			for _, before := range r.Sets[:i] {
				ok = ok && before.Var < s.Var
			}
		}
		for _, m := range r.Emits {
			ok = ok && m.Target <= 15 && m.Action >= 0 && m.Action <= 31 && expr.May(m.Arg, t.Vars)
		}
	}
	return ok
}

// fired is what Fire answers, and Find.
type fired struct {
	rule, state int
	vars        []int64
	cells       []api.Cell
	e           api.Errno
}

// fire calls both.
func fire(t api.Table, state, action, party int, vars []int64, arg int64) fired {
	x := fired{rule: table.Find(t, state, action, party, vars, arg)}
	x.state, x.vars, x.cells, x.e = table.Fire(t, state, action, party, vars, arg)
	return x
}

// fireModel is what they should answer.
func fireModel(t api.Table, state, action, party int, vars []int64, arg int64) fired {
	if !mayModel(t) || len(vars) != t.Vars {
		return fired{rule: -1, e: api.ErrTable}
	}
	for i, r := range t.Rules {
		if r.From != state || r.Action != action || r.Party != party {
			continue
		}
		if n, e := expr.Eval(r.Guard, vars, arg); len(r.Guard) > 0 && (e != api.OK || n == 0) {
			continue
		}
		x := fired{rule: i, state: r.To, vars: append([]int64{}, vars...)}
		for _, s := range r.Sets {
			n, e := expr.Eval(s.Value, vars, arg)
			if e != api.OK {
				return fired{rule: i, e: api.ErrCalc}
			}
			x.vars[s.Var] = n
		}
		for _, m := range r.Emits {
			n, e := expr.Eval(m.Arg, vars, arg)
			if e != api.OK {
				return fired{rule: i, e: api.ErrCalc}
			}
			x.cells = append(x.cells, api.Cell{Target: m.Target, Action: m.Action, Arg: n})
		}
		return x
	}
	return fired{rule: -1, e: api.ErrGuard}
}

// same tells whether two contracts are the same, or two answers of Fire; a nil list is as an empty one.
func same[T any](x, y T) bool {
	return alike(reflect.ValueOf(x), reflect.ValueOf(y))
}

// alike tells it of two values of one type.
func alike(x, y reflect.Value) bool {
	switch x.Kind() {
	case reflect.Slice:
		if x.Len() != y.Len() {
			return false
		}
		for i := range x.Len() {
			if !alike(x.Index(i), y.Index(i)) {
				return false
			}
		}
		return true
	case reflect.Struct:
		for i := range x.NumField() {
			if !alike(x.Field(i), y.Field(i)) {
				return false
			}
		}
		return true
	}
	return x.Equal(y)
}

// putModel are a contract's bytes as the library puts them.
func putModel(t api.Table) []byte {
	var b []byte
	nums := func(l ...int) {
		for _, n := range l {
			b = binary.AppendUvarint(b, uint64(n))
		}
	}
	formula := func(l []api.Tok) {
		nums(len(l))
		for _, t := range l {
			nums(int(t.Op))
			b = binary.AppendVarint(b, t.N)
		}
	}
	nums(t.States, t.Vars, len(t.Rules))
	for _, r := range t.Rules {
		nums(r.From, r.Action, r.Party, r.To)
		formula(r.Guard)
		nums(len(r.Sets))
		for _, s := range r.Sets {
			nums(s.Var)
			formula(s.Value)
		}
		nums(len(r.Emits))
		for _, m := range r.Emits {
			nums(int(m.Target), m.Action)
			formula(m.Arg)
		}
	}
	return b
}

// want is a number that may come next in a contract's bytes: the most that it may be; 0 stands for one without a limit.
type want uint64

// getModel tells the error of bytes: an automaton that asks what each number may be, and keeps no contract but for May.
type getModel struct {
	b []byte
	e api.Errno
}

// take is the next number.
func (g *getModel) take(most want) int {
	if g.e != api.OK {
		return 0
	}
	n, size := binary.Uvarint(g.b)
	switch {
	case size == 0:
		g.e = api.ErrShort
	case size < 0, size > 1 && g.b[size-1] == 0:
		g.e = api.ErrForm
	case most > 0 && n > uint64(most):
		g.e = api.ErrRange
	}
	if g.e != api.OK {
		return 0
	}
	g.b = g.b[size:]
	return int(n)
}

// formula is the next formula.
func (g *getModel) formula() []api.Tok {
	var l []api.Tok
	for range g.take(24) {
		op := g.take(255)
		n := uint64(g.take(0))
		l = append(l, api.Tok{Op: uint8(op), N: int64(n>>1) ^ -int64(n&1)})
	}
	return l
}

// table is what Get should answer.
func (g *getModel) table() (api.Table, api.Errno) {
	var t api.Table
	t.States = g.take(1000)
	t.Vars = g.take(1000)
	for range g.take(32) {
		var r api.Rule
		for _, p := range []*int{&r.From, &r.Action, &r.Party, &r.To} {
			*p = g.take(1000)
		}
		r.Guard = g.formula()
		for range g.take(8) {
			n := g.take(1000)
			r.Sets = append(r.Sets, api.Set{Var: n, Value: g.formula()})
		}
		for range g.take(4) {
			target := g.take(255)
			action := g.take(1000)
			r.Emits = append(r.Emits, api.Emit{Target: uint8(target), Action: action, Arg: g.formula()})
		}
		t.Rules = append(t.Rules, r)
	}
	switch {
	case g.e != api.OK:
		return api.Table{}, g.e
	case len(g.b) > 0:
		return api.Table{}, api.ErrLong
	case !mayModel(t):
		return api.Table{}, api.ErrTable
	}
	return t, api.OK
}

// formula is one that may be, with so many variables; some of them come to no number.
func formula(rnd *rand.Rand, vars int) []api.Tok {
	number := func() int64 {
		if rnd.Intn(8) == 0 {
			return int64(numbers[rnd.Intn(len(numbers))])
		}
		return int64(rnd.Intn(9) - 4)
	}
	leaf := func() []api.Tok {
		switch k := rnd.Intn(4); {
		case k < 2 && vars > 0:
			return v(int64(rnd.Intn(vars)))
		case k == 2:
			return a()
		}
		return c(number())
	}
	if rnd.Intn(30) == 0 {
		return spill(3 + rnd.Intn(3))
	}
	l := leaf()
	for rnd.Intn(3) > 0 && len(l) < 20 {
		switch rnd.Intn(8) {
		case 0:
			l = append(l, api.Tok{Op: api.TokNot})
		case 1:
			l = f(leaf(), l, uint8(4+rnd.Intn(7)))
		default:
			l = f(l, leaf(), uint8(4+rnd.Intn(7)))
		}
	}
	return l
}

// rule is one of a contract that may be; few states, actions and parties, so that many rules are for the same.
func rule(rnd *rand.Rand, states, vars int) api.Rule {
	r := api.Rule{From: rnd.Intn(states), Action: rnd.Intn(2) * 31, Party: rnd.Intn(2) * 7, To: rnd.Intn(states)}
	if rnd.Intn(4) > 0 {
		r.Guard = formula(rnd, vars)
	}
	for i := range vars {
		if rnd.Intn(3) == 0 {
			r.Sets = append(r.Sets, api.Set{Var: i, Value: formula(rnd, vars)})
		}
	}
	for range rnd.Intn(5) {
		r.Emits = append(r.Emits, api.Emit{Target: uint8(rnd.Intn(16)), Action: rnd.Intn(32), Arg: formula(rnd, vars)})
	}
	return r
}

// contract is one that may be.
func contract(rnd *rand.Rand) api.Table {
	t := api.Table{States: 1 + rnd.Intn(3), Vars: rnd.Intn(api.MaxVars + 1)}
	if rnd.Intn(8) == 0 {
		t.States = api.MaxStates
	}
	for range rnd.Intn(12) {
		t.Rules = append(t.Rules, rule(rnd, t.States, t.Vars))
	}
	return t
}

// largest has as much as a contract may have of all.
func largest() api.Table {
	t := api.Table{States: api.MaxStates, Vars: api.MaxVars}
	for i := range api.MaxRules {
		r := api.Rule{From: 31, Action: 31, Party: 7, To: 31, Guard: nots(24)}
		for k := range api.MaxSets {
			value := nots(23 - i%2)
			value[0] = c(math.MinInt64 + int64(i))[0]
			r.Sets = append(r.Sets, api.Set{Var: k, Value: value})
		}
		for k := range api.MaxEmits {
			r.Emits = append(r.Emits, api.Emit{Target: uint8(15 - k), Action: 31, Arg: nots(24)})
		}
		t.Rules = append(t.Rules, r)
	}
	return t
}

// fault changes a contract in one place, mostly so that it may not be.
func fault(rnd *rand.Rand, t *api.Table) {
	odd := func() int { return numbers[rnd.Intn(len(numbers))] }
	if len(t.Rules) == 0 || rnd.Intn(10) == 0 {
		*[]*int{&t.States, &t.Vars}[rnd.Intn(2)] = odd()
		return
	}
	r := &t.Rules[rnd.Intn(len(t.Rules))]
	places := []*int{&r.From, &r.Action, &r.Party, &r.To}
	formulas := []*[]api.Tok{&r.Guard}
	for i := range r.Sets {
		places = append(places, &r.Sets[i].Var)
		formulas = append(formulas, &r.Sets[i].Value)
	}
	for i := range r.Emits {
		places = append(places, &r.Emits[i].Action)
		formulas = append(formulas, &r.Emits[i].Arg)
	}
	one := formulas[rnd.Intn(len(formulas))]
	switch rnd.Intn(6) {
	case 0:
		*places[rnd.Intn(len(places))] = odd()
	case 1:
		*one = nil
	case 2:
		*one = append(append([]api.Tok{}, *one...), api.Tok{Op: uint8(rnd.Intn(13)), N: int64(rnd.Intn(3))})
	case 3:
		*one = [][]api.Tok{nots(24), nots(25), v(int64(t.Vars)), v(-1), spill(24)}[rnd.Intn(5)]
	case 4:
		r.Emits = append(r.Emits, api.Emit{Target: uint8(rnd.Intn(256)), Action: 1, Arg: c(1)})
	case 5:
		if len(r.Sets) > 1 {
			i, k := rnd.Intn(len(r.Sets)), rnd.Intn(len(r.Sets))
			r.Sets[i], r.Sets[k] = r.Sets[k], r.Sets[i]
		}
	}
}

// values are so many variables.
func values(rnd *rand.Rand, vars int) []int64 {
	l := make([]int64, vars)
	for i := range l {
		l[i] = int64(rnd.Intn(9) - 4)
		if rnd.Intn(10) == 0 {
			l[i] = int64(numbers[rnd.Intn(len(numbers))])
		}
	}
	return l
}

// asSaid holds May, Find, Fire and Put of a contract against the models.
func asSaid(t *testing.T, x api.Table, state, action, party int, vars []int64, arg int64) fired {
	t.Helper()
	may := mayModel(x)
	if got := table.May(x); got != may {
		t.Fatalf("P5.1: May of %v: %v", x, got)
	}
	want := fireModel(x, state, action, party, vars, arg)
	if got := fire(x, state, action, party, vars, arg); !same(got, want) {
		t.Fatalf("P5.1: Find and Fire of %v, %d, %d, %d, %v, %d: %v, not %v", x, state, action, party, vars, arg, got, want)
	}
	b, e := table.Put(x)
	if may && (e != api.OK || string(b) != string(putModel(x))) {
		t.Fatalf("P5.1: Put of %v: %x, %v, not %x", x, b, e, putModel(x))
	}
	if !may && (e != api.ErrTable || len(b) > 0) {
		t.Fatalf("P5.1: Put of %v: %x, %v", x, b, e)
	}
	return want
}

func TestContractsThatMayBe(t *testing.T) {
	rnd := rand.New(rand.NewSource(1))
	came := map[api.Errno]int{}
	later := 0
	for range 20_000 {
		x := contract(rnd)
		state, action, party := rnd.Intn(x.States), rnd.Intn(2)*31, rnd.Intn(2)*7
		if len(x.Rules) > 0 && rnd.Intn(2) == 0 {
			r := x.Rules[rnd.Intn(len(x.Rules))]
			state, action, party = r.From, r.Action, r.Party
		}
		got := asSaid(t, x, state, action, party, values(rnd, x.Vars), int64(rnd.Intn(9)-4))
		came[got.e]++
		if got.rule > 0 {
			later++
		}
	}
	if came[api.OK] < 4000 || came[api.ErrGuard] < 4000 || came[api.ErrCalc] < 1000 || came[api.ErrTable] > 0 || later < 2500 {
		t.Error("P5.1: the contracts that are tried don't come to enough:", came, later)
	}
}

func TestContractsWithFaults(t *testing.T) {
	rnd := rand.New(rand.NewSource(2))
	came := map[api.Errno]int{}
	for range 30_000 {
		x := contract(rnd)
		vars := values(rnd, x.Vars)
		state, action, party := 0, 0, 0
		if len(x.Rules) > 0 {
			r := x.Rules[rnd.Intn(len(x.Rules))]
			state, action, party = r.From, r.Action, r.Party
		}
		switch rnd.Intn(8) {
		case 0:
			vars = values(rnd, rnd.Intn(11))
		case 1:
			*[]*int{&state, &action, &party}[rnd.Intn(3)] = numbers[rnd.Intn(len(numbers))]
		default:
			fault(rnd, &x)
		}
		came[asSaid(t, x, state, action, party, vars, 1).e]++
	}
	if came[api.ErrTable] < 10_000 || came[api.OK] < 2500 {
		t.Error("P5.1: the contracts that are tried don't come to enough:", came)
	}
}
