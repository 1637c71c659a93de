package expr_test

import (
	"math"
	"slices"
	"testing"

	"scrutineer/api"
	"scrutineer/expr"
)

func TestMayTable(t *testing.T) {
	const (
		arg  = api.TokArg
		add  = api.TokAdd
		less = api.TokLess
		not  = api.TokNot
	)
	for _, x := range []struct {
		name string
		l    []api.Tok
		want bool
	}{
		{"the chapter's example", []api.Tok{c(2), c(3), o(add), o(arg), o(less)}, true},
		{"one constant", of(0), true},
		{"the argument", of(arg), true},
		{"not", of(0, not), true},
		{"two, taken off", of(0, arg, add), true},
		{"three, taken off in the end", of(0, 0, 0, add, add), true},
		{"three, taken off as they come", of(0, 0, add, 0, add), true},
		{"not of the upper one", of(0, 0, not, add), true},

		{"none", nil, false},
		{"not, of nothing", of(not), false},
		{"not, ahead of all", of(not, 0), false},
		{"a sum of nothing", of(add), false},
		{"a sum of one", of(0, add), false},
		{"a sum of one, and then enough", of(0, add, 0), false},
		{"a sum ahead of all", of(add, 0, 0), false},
		{"a sum ahead of its second one", of(0, add, 0, 0, add), false},
		{"two sums of three less one", of(0, 0, add, add), false},
		{"two numbers in the end", of(0, 0), false},
		{"three numbers, one sum", of(0, 0, 0, add), false},
		{"two numbers and not", of(0, 0, not), false},

		{"24 signs: nots", of(slices.Concat([]uint8{0}, ops(23, not))...), true},
		{"25 signs: nots", of(slices.Concat([]uint8{0}, ops(24, not))...), false},
		{"23 signs: twelve numbers at once", of(slices.Concat(ops(12, 0), ops(11, add))...), true},
		{"24 signs: twelve numbers at once", of(slices.Concat(ops(12, 0), ops(11, add), ops(1, not))...), true},
		{"25 signs: thirteen numbers at once", of(slices.Concat(ops(13, 0), ops(12, add))...), false},
		{"24 numbers", of(ops(24, 0)...), false},
		{"25 numbers", of(ops(25, 0)...), false},
		{"1001 signs", of(slices.Concat([]uint8{0}, ops(1000, not))...), false},
		{"2001 signs", of(slices.Concat(ops(1001, 0), ops(1000, add))...), false},
	} {
		for range 2 {
			if got := expr.May(x.l, 0); got != x.want {
				t.Errorf("P4.1: May: %s: %v", x.name, got)
			}
		}
	}
}

func TestMayOfEachSign(t *testing.T) {
	for op := range 256 {
		for _, n := range slices.Concat(numbers, []int64{api.MaxVars - 1, api.MaxVars, 24, 25, 255, 256}) {
			s := api.Tok{Op: uint8(op), N: n}
			for under, l := range [][]api.Tok{{s}, {c(0), s}, {c(0), c(0), s}, {c(0), c(0), c(0), s}} {
				for _, vars := range counts {
					want := false
					switch {
					case op == 1:
						want = under == 0
					case op == 2:
						want = under == 0 && n >= 0 && n < int64(vars)
					case op == 3:
						want = under == 0 && n == 0
					case op >= 4 && op <= 10:
						want = under == 2 && n == 0
					case op == 11:
						want = under == 1 && n == 0
					}
					if got := expr.May(l, vars); got != want {
						t.Fatalf("P4.1: May of %v, %d: %v", l, vars, got)
					}
				}
			}
		}
	}
}

func TestMayOfVariables(t *testing.T) {
	for _, vars := range counts {
		for _, n := range []int64{math.MinInt64, -1, 0, 1, 2, 6, 7, 8, 9, math.MaxInt32, math.MaxInt64 - 1, math.MaxInt64} {
			want := n >= 0 && n < int64(vars)
			for _, l := range [][]api.Tok{{v(n)}, {v(n), o(api.TokNot)}, {c(0), v(n), o(api.TokMul)}, {v(n), o(api.TokArg), o(api.TokAnd)}} {
				if got := expr.May(l, vars); got != want {
					t.Errorf("P4.1: May of %v, %d: %v", l, vars, got)
				}
			}
		}
	}
}

func TestMayHangsOnVariablesThatAreNamed(t *testing.T) {
	l := []api.Tok{v(0), v(3), o(api.TokAdd), v(7), o(api.TokSub)}
	for vars := range 12 {
		if got := expr.May(l, vars); got != (vars >= 8) {
			t.Errorf("P4.1: May of a formula of the variables 0, 3 and 7, of %d: %v", vars, got)
		}
	}
	for _, vars := range counts {
		if !expr.May([]api.Tok{c(5), o(api.TokArg), o(api.TokLess)}, vars) {
			t.Errorf("P4.1: May of a formula that names no variable, of %d", vars)
		}
	}
}
