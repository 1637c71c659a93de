package table_test

import (
	"math"
	"testing"

	"scrutineer/api"
	"scrutineer/table"
)

// sale is a contract: an offer of at least a price is taken, the best one is kept, and what it was is told.
func sale() api.Table {
	const (
		open = iota
		sold
		paid
	)
	return api.Table{States: 3, Vars: 2, Rules: []api.Rule{
		{From: open, Action: 1, Party: 1, To: sold, Guard: f(v(0), a(), api.TokLess),
			Sets:  []api.Set{{Var: 0, Value: a()}, {Var: 1, Value: v(0)}},
			Emits: []api.Emit{{Target: 15, Action: 31, Arg: f(v(0), a(), api.TokSub)}, {Target: 3, Action: 0, Arg: v(1)}}},
		{From: open, Action: 1, Party: 1, To: open, Guard: f(a(), c(0), api.TokLess)},
		{From: open, Action: 1, Party: 1, To: open, Sets: []api.Set{{Var: 1, Value: f(v(1), c(1), api.TokAdd)}}},
		{From: open, Action: 1, Party: 1, To: paid},
		{From: sold, Action: 2, Party: 1, To: paid, Emits: []api.Emit{{Target: 2, Action: 9, Arg: v(1)}, {Target: 2, Action: 9, Arg: v(1)}}},
		{From: sold, Action: 2, Party: 2, To: sold, Sets: []api.Set{{Var: 0, Value: v(1)}, {Var: 1, Value: v(0)}}},
	}}
}

func TestFindAndFire(t *testing.T) {
	for _, x := range []struct {
		state, action, party int
		vars                 []int64
		arg                  int64
		want                 fired
	}{
		// The first rule whose Guard holds; all formulas see the variables as they were.
		{0, 1, 1, []int64{10, 20}, 11, fired{0, 1, []int64{11, 10}, []api.Cell{{Target: 15, Action: 31, Arg: -1}, {Target: 3, Action: 0, Arg: 20}}, api.OK}},
		{0, 1, 1, []int64{-9, 20}, -8, fired{0, 1, []int64{-8, -9}, []api.Cell{{Target: 15, Action: 31, Arg: -1}, {Target: 3, Action: 0, Arg: 20}}, api.OK}},
		{0, 1, 1, []int64{10, 20}, -1, fired{1, 0, []int64{10, 20}, nil, api.OK}},
		{0, 1, 1, []int64{10, 20}, 10, fired{2, 0, []int64{10, 21}, nil, api.OK}},
		{1, 2, 1, []int64{10, 20}, 0, fired{4, 2, []int64{10, 20}, []api.Cell{{Target: 2, Action: 9, Arg: 20}, {Target: 2, Action: 9, Arg: 20}}, api.OK}},
		{1, 2, 2, []int64{10, 20}, 0, fired{5, 1, []int64{20, 10}, nil, api.OK}},

		{0, 1, 2, []int64{10, 20}, 11, fired{rule: -1, e: api.ErrGuard}},
		{0, 2, 1, []int64{10, 20}, 11, fired{rule: -1, e: api.ErrGuard}},
		{1, 1, 1, []int64{10, 20}, 11, fired{rule: -1, e: api.ErrGuard}},
		{2, 2, 1, []int64{10, 20}, 0, fired{rule: -1, e: api.ErrGuard}},
		{3, 2, 1, []int64{10, 20}, 0, fired{rule: -1, e: api.ErrGuard}},
		{-1, 2, 1, []int64{10, 20}, 0, fired{rule: -1, e: api.ErrGuard}},
		{math.MinInt, math.MaxInt, math.MinInt, []int64{10, 20}, 0, fired{rule: -1, e: api.ErrGuard}},
		{1, 2 + math.MinInt, 1, []int64{10, 20}, 0, fired{rule: -1, e: api.ErrGuard}},
		{1, 2, 257, []int64{10, 20}, 0, fired{rule: -1, e: api.ErrGuard}},

		{0, 1, 1, []int64{math.MinInt64, 20}, 1, fired{rule: 0, e: api.ErrCalc}},
		{0, 1, 1, []int64{5, math.MaxInt64}, 1, fired{rule: 2, e: api.ErrCalc}},

		{0, 1, 1, nil, 11, fired{rule: -1, e: api.ErrTable}},
		{0, 1, 1, []int64{10}, 11, fired{rule: -1, e: api.ErrTable}},
		{0, 1, 1, []int64{10, 20, 30}, 11, fired{rule: -1, e: api.ErrTable}},
		{0, 1, 1, make([]int64, 1000), 11, fired{rule: -1, e: api.ErrTable}},
		{9, 9, 9, []int64{10}, 11, fired{rule: -1, e: api.ErrTable}},
	} {
		for range 2 {
			if got := fire(sale(), x.state, x.action, x.party, x.vars, x.arg); !same(got, x.want) {
				t.Errorf("P5.1: Find and Fire of %d, %d, %d, %v, %d: %v, not %v", x.state, x.action, x.party, x.vars, x.arg, got, x.want)
			}
		}
	}
}

func TestGuardsWithAnErrorDontHold(t *testing.T) {
	x := api.Table{States: 4, Rules: []api.Rule{
		{To: 1, Guard: spill(3)},
		{To: 2, Guard: c(0)},
		{To: 3, Guard: c(-5)},
		{To: 0, Guard: c(1)},
	}}
	if got := fire(x, 0, 0, 0, nil, 0); !same(got, fired{rule: 2, state: 3}) {
		t.Errorf("P5.1: a Guard with an error: %v", got)
	}
	x.Rules = x.Rules[:2]
	if got := fire(x, 0, 0, 0, nil, 0); !same(got, fired{rule: -1, e: api.ErrGuard}) {
		t.Errorf("P5.1: no Guard holds: %v", got)
	}
}

func TestEmptyGuardsHold(t *testing.T) {
	for _, guard := range [][]api.Tok{nil, {}} {
		x := api.Table{States: 2, Rules: []api.Rule{{To: 1, Guard: guard}, {To: 0}}}
		if got := fire(x, 0, 0, 0, nil, 0); !same(got, fired{rule: 0, state: 1}) {
			t.Errorf("P5.1: an empty Guard: %v", got)
		}
	}
}

func TestFireOfFormulasWithAnError(t *testing.T) {
	for name, r := range map[string]api.Rule{
		"the only Set":   {Sets: []api.Set{{Var: 0, Value: spill(3)}}},
		"the first Set":  {Sets: []api.Set{{Var: 0, Value: spill(3)}, {Var: 1, Value: c(1)}}},
		"the last Set":   {Sets: []api.Set{{Var: 0, Value: c(1)}, {Var: 1, Value: spill(4)}}},
		"the only Emit":  {Emits: []api.Emit{{Arg: spill(3)}}},
		"the first Emit": {Sets: setsOf(0, 1), Emits: []api.Emit{{Arg: spill(5)}, {Arg: c(1)}}},
		"the last Emit":  {Sets: setsOf(0, 1), Emits: []api.Emit{{Arg: c(1)}, {Arg: c(1)}, {Arg: c(1)}, {Arg: spill(3)}}},
		"both":           {Sets: []api.Set{{Var: 0, Value: spill(3)}}, Emits: []api.Emit{{Arg: spill(3)}}},
	} {
		// The rule is taken all the same: another one behind it isn't tried.
		x := api.Table{States: 2, Vars: 2, Rules: []api.Rule{r, {To: 1}}}
		if got := fire(x, 0, 0, 0, []int64{1, 2}, 0); !same(got, fired{rule: 0, e: api.ErrCalc}) {
			t.Errorf("P5.1: Fire, with an error in %s: %v", name, got)
		}
	}
}

func TestFireOfAllVariables(t *testing.T) {
	vars := []int64{1, 2, 3, 4, 5, 6, 7, 8}
	for at := range 8 {
		x := api.Table{States: 1, Vars: 8, Rules: []api.Rule{{Sets: []api.Set{{Var: at, Value: f(v(int64(at)), v(7), api.TokMul)}}}}}
		want := append([]int64{}, vars...)
		want[at] *= 8
		if got := fire(x, 0, 0, 0, vars, 0); !same(got, fired{vars: want}) {
			t.Errorf("P5.1: Fire of a Set of the variable %d: %v", at, got)
		}
	}
	var turned []api.Set
	for i := range 8 {
		turned = append(turned, api.Set{Var: i, Value: v(int64(7 - i))})
	}
	x := api.Table{States: 1, Vars: 8, Rules: []api.Rule{{Sets: turned, Emits: []api.Emit{{Arg: v(0)}, {Arg: v(7)}}}}}
	want := fired{vars: []int64{8, 7, 6, 5, 4, 3, 2, 1}, cells: []api.Cell{{Arg: 1}, {Arg: 8}}}
	if got := fire(x, 0, 0, 0, vars, 0); !same(got, want) {
		t.Errorf("P5.1: Fire that turns all variables: %v", got)
	}
}

func TestOfContractsThatMayNotBe(t *testing.T) {
	for name, change := range map[string]func(x *api.Table){
		"no states":      func(x *api.Table) { x.States = 0 },
		"too many rules": func(x *api.Table) { x.Rules = append(x.Rules, make([]api.Rule, 27)...) },
		// These faults stand in rules that aren't for what is asked.
		"another rule's To":   func(x *api.Table) { x.Rules[5].To = 3 },
		"another rule's Sets": func(x *api.Table) { x.Rules[5].Sets[1].Var = 0 },
		"another rule's Emit": func(x *api.Table) { x.Rules[4].Emits[1].Target = 16 },
	} {
		x := sale()
		change(&x)
		if got := fire(x, 0, 1, 1, []int64{10, 20}, 11); !same(got, fired{rule: -1, e: api.ErrTable}) {
			t.Errorf("P5.1: Find and Fire, with %s: %v", name, got)
		}
		// P0.2: ErrTable is named ahead of ErrGuard and ErrCalc.
		if got := fire(x, 2, 1, 1, []int64{10, 20}, 11); !same(got, fired{rule: -1, e: api.ErrTable}) {
			t.Errorf("P0.2: Find and Fire of no rule, with %s: %v", name, got)
		}
		if got := fire(x, 0, 1, 1, []int64{math.MinInt64, 20}, 1); !same(got, fired{rule: -1, e: api.ErrTable}) {
			t.Errorf("P0.2: Find and Fire of a sum without room, with %s: %v", name, got)
		}
		if b, e := table.Put(x); e != api.ErrTable || len(b) > 0 {
			t.Errorf("P5.1: Put, with %s: %x, %v", name, b, e)
		}
	}
	if got := fire(api.Table{Vars: -1}, 0, 0, 0, nil, 0); !same(got, fired{rule: -1, e: api.ErrTable}) {
		t.Errorf("P5.1: Find and Fire of less than no variables: %v", got)
	}
	if got := fire(api.Table{}, 0, 0, 0, nil, 0); !same(got, fired{rule: -1, e: api.ErrTable}) {
		t.Errorf("P5.1: Find and Fire of the zero contract: %v", got)
	}
}

func TestFireOfTheLastOf32Rules(t *testing.T) {
	x := api.Table{States: 32}
	for i := range 32 {
		x.Rules = append(x.Rules, api.Rule{From: i, Action: i, Party: i % 8, To: 31 - i})
	}
	for i := range 32 {
		if got := fire(x, i, i, i%8, nil, 0); !same(got, fired{rule: i, state: 31 - i}) {
			t.Errorf("P5.1: the rule %d of 32: %v", i, got)
		}
	}
}
