package expr_test

import (
	"math"
	"math/big"
	"slices"
	"testing"

	"scrutineer/api"
	"scrutineer/expr"
)

func TestEvalTable(t *testing.T) {
	const (
		arg  = api.TokArg
		add  = api.TokAdd
		sub  = api.TokSub
		mul  = api.TokMul
		less = api.TokLess
		same = api.TokSame
		and  = api.TokAnd
		or   = api.TokOr
		not  = api.TokNot
		most = math.MaxInt64
		min  = math.MinInt64
	)
	vars := []int64{10, 20, -30, 0, most}
	for _, x := range []struct {
		l    []api.Tok
		want int64
		e    api.Errno
	}{
		// The argument is 6.
		{[]api.Tok{c(2), c(3), o(add), o(arg), o(less)}, 1, api.OK},
		{[]api.Tok{c(3), c(3), o(add), o(arg), o(less)}, 0, api.OK},
		{[]api.Tok{c(min)}, min, api.OK},
		{[]api.Tok{c(most)}, most, api.OK},
		{[]api.Tok{o(arg)}, 6, api.OK},
		{[]api.Tok{v(0)}, 10, api.OK},
		{[]api.Tok{v(1)}, 20, api.OK},
		{[]api.Tok{v(4)}, most, api.OK},

		{[]api.Tok{c(7), c(3), o(add)}, 10, api.OK},
		{[]api.Tok{c(7), c(3), o(sub)}, 4, api.OK},
		{[]api.Tok{c(3), c(7), o(sub)}, -4, api.OK},
		{[]api.Tok{c(7), c(-3), o(mul)}, -21, api.OK},
		{[]api.Tok{c(3), c(7), o(less)}, 1, api.OK},
		{[]api.Tok{c(7), c(3), o(less)}, 0, api.OK},
		{[]api.Tok{c(7), c(7), o(less)}, 0, api.OK},
		{[]api.Tok{c(-7), c(3), o(less)}, 1, api.OK},
		{[]api.Tok{c(min), c(most), o(less)}, 1, api.OK},
		{[]api.Tok{c(most), c(min), o(less)}, 0, api.OK},
		{[]api.Tok{c(7), c(7), o(same)}, 1, api.OK},
		{[]api.Tok{c(7), c(-7), o(same)}, 0, api.OK},
		{[]api.Tok{c(0), c(0), o(same)}, 1, api.OK},
		{[]api.Tok{c(0), c(0), o(and)}, 0, api.OK},
		{[]api.Tok{c(2), c(0), o(and)}, 0, api.OK},
		{[]api.Tok{c(0), c(-2), o(and)}, 0, api.OK},
		{[]api.Tok{c(4), c(-2), o(and)}, 1, api.OK},
		{[]api.Tok{c(4), c(3), o(and)}, 1, api.OK},
		{[]api.Tok{c(0), c(0), o(or)}, 0, api.OK},
		{[]api.Tok{c(2), c(0), o(or)}, 1, api.OK},
		{[]api.Tok{c(0), c(-2), o(or)}, 1, api.OK},
		{[]api.Tok{c(4), c(-4), o(or)}, 1, api.OK},
		{[]api.Tok{c(0), o(not)}, 1, api.OK},
		{[]api.Tok{c(1), o(not)}, 0, api.OK},
		{[]api.Tok{c(-5), o(not)}, 0, api.OK},
		{[]api.Tok{c(9), o(not), o(not)}, 1, api.OK},

		{[]api.Tok{c(100), v(0), v(1), o(sub), o(sub)}, 110, api.OK},
		{[]api.Tok{c(100), v(0), o(sub), v(1), o(sub)}, 70, api.OK},
		{[]api.Tok{v(2), o(arg), o(mul), v(3), o(not), o(add)}, -179, api.OK},

		{[]api.Tok{v(4), c(1), o(add)}, 0, api.ErrCalc},
		{[]api.Tok{v(4), o(arg), o(mul)}, 0, api.ErrCalc},
		{[]api.Tok{c(-2), v(4), o(sub)}, 0, api.ErrCalc},
		{[]api.Tok{c(-1), v(4), o(sub)}, min, api.OK},
		// What comes behind doesn't mend it.
		{[]api.Tok{c(most), c(1), o(add), c(1), o(sub)}, 0, api.ErrCalc},
		{[]api.Tok{c(0), c(most), c(2), o(mul), o(mul)}, 0, api.ErrCalc},
		{[]api.Tok{c(0), c(min), c(1), o(sub), o(and)}, 0, api.ErrCalc},
		{[]api.Tok{c(1), c(min), c(-1), o(mul), o(or)}, 0, api.ErrCalc},
		{[]api.Tok{c(most), c(most), o(add), o(not)}, 0, api.ErrCalc},
		{[]api.Tok{c(most), c(1), o(sub), c(1), o(add)}, most, api.OK},

		{nil, 0, api.ErrForm},
		{[]api.Tok{c(1), c(1)}, 0, api.ErrForm},
		{[]api.Tok{c(5), o(add)}, 0, api.ErrForm},
		{[]api.Tok{c(5), o(0)}, 0, api.ErrForm},
		{[]api.Tok{c(5), o(12)}, 0, api.ErrForm},
		{[]api.Tok{c(5), c(5), o(12)}, 0, api.ErrForm},
		{[]api.Tok{c(5), {Op: not, N: 1}}, 0, api.ErrForm},
		{[]api.Tok{{Op: arg, N: -1}}, 0, api.ErrForm},
		{[]api.Tok{v(-1)}, 0, api.ErrForm},
		{[]api.Tok{v(5)}, 0, api.ErrForm},
		{[]api.Tok{v(most)}, 0, api.ErrForm},
		{[]api.Tok{v(min)}, 0, api.ErrForm},
		// P0.2: ErrForm is named ahead of ErrCalc, wherever the fault stands.
		{[]api.Tok{c(most), c(1), o(add), c(1)}, 0, api.ErrForm},
		{[]api.Tok{c(most), c(1), o(add), o(add)}, 0, api.ErrForm},
		{[]api.Tok{c(most), c(1), o(add), v(5), o(and)}, 0, api.ErrForm},
		{[]api.Tok{c(most), c(1), o(add), {Op: not, N: 1}}, 0, api.ErrForm},
		{slices.Concat([]api.Tok{c(most), c(1), o(add)}, of(ops(22, not)...)), 0, api.ErrForm},
		{slices.Concat([]api.Tok{c(most), c(1), o(add)}, of(ops(21, not)...)), 0, api.ErrCalc},
	} {
		for range 2 {
			if got, e := expr.Eval(x.l, vars, 6); got != x.want || e != x.e {
				t.Errorf("P4.1: Eval of %v: %d, %v, not %d, %v", x.l, got, e, x.want, x.e)
			}
		}
	}
}

func TestEvalOfTwoNumbers(t *testing.T) {
	for _, a := range numbers {
		for _, b := range numbers {
			for op := api.TokAdd; op <= api.TokOr; op++ {
				n := bothModel(op, big.NewInt(a), big.NewInt(b))
				want, e := n.Int64(), api.OK
				if !n.IsInt64() {
					want, e = 0, api.ErrCalc
				}
				for _, l := range [][]api.Tok{{c(a), c(b), o(op)}, {v(0), v(1), o(op)}, {v(0), o(api.TokArg), o(op)}} {
					if got, x := expr.Eval(l, []int64{a, b}, b); got != want || x != e {
						t.Errorf("P4.1: Eval of %d, %d, and the sign %d: %d, %v, not %d, %v", a, b, op, got, x, want, e)
					}
				}
			}
		}
	}
}

func TestEvalOfManyNumbers(t *testing.T) {
	// 12 lie on the stack at once, and each one counts.
	var l []api.Tok
	var want int64
	for i := range 12 {
		n := int64(1) << (4 * i)
		l = append(l, c(n))
		want += n
	}
	for range 11 {
		l = append(l, o(api.TokAdd))
	}
	if got, e := expr.Eval(l, nil, 0); got != want || e != api.OK {
		t.Errorf("P4.1: Eval of a sum of twelve numbers: %d, %v, not %d", got, e, want)
	}
	if got, e := expr.Eval(append(l, o(api.TokNot)), nil, 0); got != 0 || e != api.OK {
		t.Errorf("P4.1: Eval of a formula of 24 signs: %d, %v", got, e)
	}
	if got, e := expr.Eval(append(l, o(api.TokNot), o(api.TokNot)), nil, 0); got != 0 || e != api.ErrForm {
		t.Errorf("P4.1: Eval of a formula of 25 signs: %d, %v", got, e)
	}
	if got, e := expr.Eval(of(ops(1000, 0)...), nil, 0); got != 0 || e != api.ErrForm {
		t.Errorf("P4.1: Eval of a thousand numbers: %d, %v", got, e)
	}
}

func TestEvalOfAsManyVariables(t *testing.T) {
	for count := range 20 {
		vars := make([]int64, count)
		for i := range vars {
			vars[i] = int64(100 + i)
		}
		for n := range int64(22) {
			want, e := 100+n, api.OK
			if n >= int64(count) {
				want, e = 0, api.ErrForm
			}
			if got, x := expr.Eval([]api.Tok{v(n)}, vars, 1); got != want || x != e {
				t.Errorf("P4.1: Eval of the variable %d, of %d: %d, %v, not %d, %v", n, count, got, x, want, e)
			}
		}
	}
	// What is behind the list's end is no variable.
	room := []int64{1, 2, 3}
	if got, e := expr.Eval([]api.Tok{v(1)}, room[:1], 0); got != 0 || e != api.ErrForm {
		t.Errorf("P4.1: Eval of a variable behind the end: %d, %v", got, e)
	}
}

func TestHoldsTable(t *testing.T) {
	for _, x := range []struct {
		name string
		l    []api.Tok
		want bool
	}{
		{"none", nil, true},
		{"empty", []api.Tok{}, true},
		{"0", []api.Tok{c(0)}, false},
		{"1", []api.Tok{c(1)}, true},
		{"2", []api.Tok{c(2)}, true},
		{"-1", []api.Tok{c(-1)}, true},
		{"the lowest number", []api.Tok{c(math.MinInt64)}, true},
		{"the argument", []api.Tok{o(api.TokArg)}, true},
		{"the argument is less than 5", []api.Tok{o(api.TokArg), c(5), o(api.TokLess)}, false},
		{"the argument is less than 7", []api.Tok{o(api.TokArg), c(7), o(api.TokLess)}, true},
		{"a variable that is 0", []api.Tok{v(0)}, false},
		{"a variable that is 9", []api.Tok{v(1)}, true},
		{"a variable that there isn't", []api.Tok{v(2)}, false},
		{"a variable that there isn't, and not", []api.Tok{v(2), o(api.TokNot)}, false},
		{"two numbers", []api.Tok{c(1), c(1)}, false},
		{"no room", []api.Tok{c(math.MaxInt64), c(1), o(api.TokAdd)}, false},
		{"no room, and not", []api.Tok{c(math.MaxInt64), c(1), o(api.TokAdd), o(api.TokNot)}, false},
		{"an odd sign", []api.Tok{o(12)}, false},
		{"24 signs that come to 1", append([]api.Tok{c(0)}, of(ops(23, api.TokNot)...)...), true},
		{"24 signs that come to 0", append([]api.Tok{c(1)}, of(ops(23, api.TokNot)...)...), false},
		{"25 signs", of(slices.Concat([]uint8{0}, ops(24, api.TokNot))...), false},
	} {
		for range 2 {
			if got := expr.Holds(x.l, []int64{0, 9}, 6); got != x.want {
				t.Errorf("P4.1: Holds: %s: %v", x.name, got)
			}
		}
	}
	for _, arg := range numbers {
		if !expr.Holds(nil, nil, arg) {
			t.Errorf("P4.1: Holds of no formula, with %d", arg)
		}
		if got := expr.Holds([]api.Tok{o(api.TokArg)}, nil, arg); got != (arg != 0) {
			t.Errorf("P4.1: Holds of the argument, with %d: %v", arg, got)
		}
	}
}
