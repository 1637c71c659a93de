package table_test

import (
	"math"
	"testing"

	"scrutineer/api"
	"scrutineer/table"
)

// plain is a contract with one of each, that may be.
func plain() api.Table {
	return api.Table{States: 3, Vars: 2, Rules: []api.Rule{
		{From: 0, Action: 1, Party: 2, To: 1},
		{
			From: 1, Action: 3, Party: 4, To: 2,
			Guard: f(v(0), a(), api.TokLess),
			Sets:  []api.Set{{Var: 0, Value: v(1)}, {Var: 1, Value: c(-7)}},
			Emits: []api.Emit{{Target: 5, Action: 6, Arg: a()}, {Target: 0, Action: 0, Arg: v(1)}},
		},
		{From: 2, Action: 0, Party: 0, To: 0},
	}}
}

func TestMayOfStatesAndVariables(t *testing.T) {
	for _, states := range numbers {
		for _, vars := range numbers {
			want := states >= 1 && states <= 32 && vars >= 0 && vars <= 8
			for _, rules := range [][]api.Rule{nil, {{}}} {
				if got := table.May(api.Table{States: states, Vars: vars, Rules: rules}); got != want {
					t.Errorf("P5.1: May of %d states, %d variables, %d rules: %v", states, vars, len(rules), got)
				}
			}
		}
	}
}

func TestMayOfHowManyRules(t *testing.T) {
	for _, n := range []int{0, 1, 31, 32, 33, 1000} {
		if got := table.May(api.Table{States: 1, Rules: make([]api.Rule, n)}); got != (n <= 32) {
			t.Errorf("P5.1: May of %d rules: %v", n, got)
		}
	}
}

func TestMayOfTheLargest(t *testing.T) {
	if !table.May(largest()) {
		t.Error("P5.1: the largest contract may be")
	}
	for name, grow := range map[string]func(x *api.Table){
		"states":    func(x *api.Table) { x.States++ },
		"variables": func(x *api.Table) { x.Vars++ },
		"rules":     func(x *api.Table) { x.Rules = append(x.Rules, x.Rules[0]) },
		"From":      func(x *api.Table) { x.Rules[31].From++ },
		"To":        func(x *api.Table) { x.Rules[31].To++ },
		"Action":    func(x *api.Table) { x.Rules[31].Action++ },
		"Party":     func(x *api.Table) { x.Rules[31].Party++ },
		"Guard":     func(x *api.Table) { x.Rules[31].Guard = nots(25) },
		"Sets":      func(x *api.Table) { x.Rules[31].Sets = append(x.Rules[31].Sets, api.Set{Var: 8, Value: c(0)}) },
		"Var":       func(x *api.Table) { x.Rules[31].Sets[7].Var++ },
		"Value":     func(x *api.Table) { x.Rules[31].Sets[7].Value = nots(25) },
		"Emits":     func(x *api.Table) { x.Rules[31].Emits = append(x.Rules[31].Emits, api.Emit{Arg: c(0)}) },
		"Target":    func(x *api.Table) { x.Rules[31].Emits[0].Target++ },
		"an Emit's": func(x *api.Table) { x.Rules[31].Emits[3].Action++ },
		"Arg":       func(x *api.Table) { x.Rules[31].Emits[3].Arg = nots(25) },
	} {
		x := largest()
		if grow(&x); table.May(x) {
			t.Errorf("P5.1: May of the largest contract, with more: %s", name)
		}
	}
}

func TestMayOfEachNumber(t *testing.T) {
	if !table.May(plain()) {
		t.Fatal("P5.1: the plain contract may be")
	}
	for at := range 3 {
		for _, n := range numbers {
			for name, x := range map[string]struct {
				place func(r *api.Rule) *int
				most  int
			}{
				"From":   {func(r *api.Rule) *int { return &r.From }, 2},
				"To":     {func(r *api.Rule) *int { return &r.To }, 2},
				"Action": {func(r *api.Rule) *int { return &r.Action }, 31},
				"Party":  {func(r *api.Rule) *int { return &r.Party }, 7},
			} {
				y := plain()
				*x.place(&y.Rules[at]) = n
				if got := table.May(y); got != (n >= 0 && n <= x.most) {
					t.Errorf("P5.1: May of the rule %d with %d as its %s: %v", at, n, name, got)
				}
			}
		}
	}
	for at := range 2 {
		for _, n := range numbers {
			y := plain()
			y.Rules[1].Emits[at].Action = n
			if got := table.May(y); got != (n >= 0 && n <= 31) {
				t.Errorf("P5.1: May of the Emit %d with %d as its Action: %v", at, n, got)
			}
		}
		for n := range 256 {
			y := plain()
			y.Rules[1].Emits[at].Target = uint8(n)
			if got := table.May(y); got != (n < 16) {
				t.Errorf("P5.1: May of the Emit %d with %d as its Target: %v", at, n, got)
			}
		}
	}
}

func TestMayOfStatesThatThereAre(t *testing.T) {
	for states := 1; states <= 32; states++ {
		for n := range 34 {
			for _, r := range []api.Rule{{From: n}, {To: n}} {
				if got := table.May(api.Table{States: states, Rules: []api.Rule{r}}); got != (n < states) {
					t.Errorf("P5.1: May of %d states, and %v: %v", states, r, got)
				}
			}
		}
	}
}

// setsOf are Sets of these variables.
func setsOf(l ...int) []api.Set {
	var sets []api.Set
	for _, n := range l {
		sets = append(sets, api.Set{Var: n, Value: c(1)})
	}
	return sets
}

func TestMayOfSets(t *testing.T) {
	for _, x := range []struct {
		vars int
		l    []int
		want bool
	}{
		{0, nil, true},
		{8, nil, true},
		{1, []int{0}, true},
		{2, []int{1}, true},
		{2, []int{0, 1}, true},
		{8, []int{7}, true},
		{8, []int{1, 3, 6}, true},
		{8, []int{0, 1, 2, 3, 4, 5, 6, 7}, true},

		{0, []int{0}, false},
		{1, []int{1}, false},
		{7, []int{7}, false},
		{8, []int{8}, false},
		{8, []int{-1}, false},
		{8, []int{-1, 0}, false},
		{8, []int{0, 8}, false},
		{8, []int{math.MinInt}, false},
		{8, []int{math.MaxInt}, false},
		{8, []int{math.MaxInt, math.MinInt}, false},
		{8, []int{math.MaxInt, 0}, false},
		{2, []int{0, 0}, false},
		{2, []int{1, 1}, false},
		{2, []int{1, 0}, false},
		{8, []int{1, 3, 3}, false},
		{8, []int{1, 3, 2}, false},
		{8, []int{3, 4, 0}, false},
		{8, []int{0, 1, 2, 3, 4, 5, 6, 7, 8}, false},
		{8, []int{0, 1, 2, 3, 4, 5, 6, 7, 7}, false},
		{9, []int{0, 1, 2, 3, 4, 5, 6, 7, 8}, false},
	} {
		y := api.Table{States: 1, Vars: x.vars, Rules: []api.Rule{{}, {Sets: setsOf(x.l...)}}}
		if got := table.May(y); got != x.want {
			t.Errorf("P5.1: May of %d variables, and Sets of %v: %v", x.vars, x.l, got)
		}
	}
	// They rise within a rule, not from one to the next.
	y := api.Table{States: 1, Vars: 8, Rules: []api.Rule{{Sets: setsOf(6, 7)}, {Sets: setsOf(0, 1)}, {Sets: setsOf(1)}}}
	if !table.May(y) {
		t.Error("P5.1: May of rules whose Sets begin anew")
	}
}

func TestMayOfHowManyEmits(t *testing.T) {
	for n := range 9 {
		var l []api.Emit
		for range n {
			l = append(l, api.Emit{Target: 3, Action: 4, Arg: c(5)})
		}
		if got := table.May(api.Table{States: 1, Rules: []api.Rule{{Emits: l}}}); got != (n <= 4) {
			t.Errorf("P5.1: May of %d Emits: %v", n, got)
		}
	}
}

func TestMayOfFormulas(t *testing.T) {
	put := map[string]func(r *api.Rule, l []api.Tok){
		"Guard":            func(r *api.Rule, l []api.Tok) { r.Guard = l },
		"the first Value":  func(r *api.Rule, l []api.Tok) { r.Sets[0].Value = l },
		"the second Value": func(r *api.Rule, l []api.Tok) { r.Sets[1].Value = l },
		"the first Arg":    func(r *api.Rule, l []api.Tok) { r.Emits[0].Arg = l },
		"the second Arg":   func(r *api.Rule, l []api.Tok) { r.Emits[1].Arg = l },
	}
	for _, x := range []struct {
		l    []api.Tok
		want bool
	}{
		{c(math.MinInt64), true},
		{v(1), true},
		{f(v(0), a(), api.TokMul), true},
		{nots(24), true},
		{spill(3), true},
		{v(2), false},
		{v(-1), false},
		{nots(25), false},
		{append(c(1), c(1)...), false},
		{[]api.Tok{{Op: api.TokNot}}, false},
		{[]api.Tok{{Op: 0}}, false},
		{[]api.Tok{{Op: 12}}, false},
		{[]api.Tok{{Op: api.TokArg, N: 1}}, false},
	} {
		for name, change := range put {
			y := plain()
			if change(&y.Rules[1], x.l); table.May(y) != x.want {
				t.Errorf("P5.1: May with %v as %s: %v", x.l, name, !x.want)
			}
		}
	}
	for name, change := range put {
		for _, l := range [][]api.Tok{nil, {}} {
			y := plain()
			if change(&y.Rules[1], l); table.May(y) != (name == "Guard") {
				t.Errorf("P5.1: May with an empty formula as %s", name)
			}
		}
	}
	// A formula's variables are the contract's, not the largest one's.
	for vars := range 9 {
		y := api.Table{States: 1, Vars: vars, Rules: []api.Rule{{Guard: v(4)}}}
		if got := table.May(y); got != (vars > 4) {
			t.Errorf("P5.1: May of %d variables, and a Guard of the variable 4: %v", vars, got)
		}
	}
}
