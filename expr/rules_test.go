package expr_test

import (
	"math"
	"math/rand"
	"slices"
	"testing"

	"scrutineer/api"
	"scrutineer/expr"
)

// answer are all calls' answers about a formula.
type answer struct {
	may, holds bool
	n          int64
	e          api.Errno
}

// ask calls all that there is.
func ask(l []api.Tok, vars []int64, arg int64) answer {
	n, e := expr.Eval(l, vars, arg)
	return answer{expr.May(l, len(vars)), expr.Holds(l, vars, arg), n, e}
}

func TestEveryCallEnds(t *testing.T) {
	defer func() {
		if p := recover(); p != nil {
			t.Errorf("P0.1: a call panics: %v", p)
		}
	}()
	rnd := rand.New(rand.NewSource(3))
	for at := range 200_000 {
		l := make([]api.Tok, rnd.Intn(30))
		for i := range l {
			l[i].Op = uint8(rnd.Intn(16))
			if at%3 == 0 {
				l[i].Op = uint8(rnd.Intn(256))
			}
			if rnd.Intn(3) == 0 {
				l[i].N = number(rnd)
			}
		}
		vars := make([]int64, rnd.Intn(12))
		for i := range vars {
			vars[i] = number(rnd)
		}
		ask(l, vars, number(rnd))
		expr.May(l, int(number(rnd)))
	}
	for _, n := range []int{25, 1000, 100_000} {
		for op := range 14 {
			l := of(ops(n, uint8(op))...)
			ask(l, nil, math.MinInt64)
			ask(append([]api.Tok{c(math.MinInt64)}, l...), make([]int64, n), math.MaxInt64)
		}
	}
}

func TestErrorsStandAlone(t *testing.T) {
	rnd := rand.New(rand.NewSource(4))
	for range 100_000 {
		l := formula(rnd, 1+rnd.Intn(26), 2)
		l[rnd.Intn(len(l))].Op = uint8(rnd.Intn(13))
		if a := ask(l, []int64{number(rnd), 5}, number(rnd)); a.e != api.OK && (a.n != 0 || a.holds) {
			t.Fatalf("P0.2: beside an error %v is answered of %v", a, l)
		}
	}
}

func TestCallsLeaveWhatIsHandedIn(t *testing.T) {
	rnd := rand.New(rand.NewSource(5))
	for range 20_000 {
		toks := slices.Concat(formula(rnd, 1+rnd.Intn(api.MaxToks), 3), of(0, 0, api.TokAdd))
		vars := []int64{number(rnd), number(rnd), number(rnd), 4, 5}
		keepToks, keepVars := slices.Clone(toks), slices.Clone(vars)
		ask(toks[:len(toks)-3], vars[:3], number(rnd))
		ask(toks, vars[:3], number(rnd))
		if !slices.Equal(toks, keepToks) || !slices.Equal(vars, keepVars) {
			t.Fatalf("P0.3: the formula, or the variables, or the room behind them: %v, %v, not %v, %v", toks, vars, keepToks, keepVars)
		}
	}
}

func TestCallsKeepNothing(t *testing.T) {
	l := []api.Tok{c(2), v(0), o(api.TokAdd)}
	vars := []int64{3}
	first := ask(l, vars, 0)
	l[0].N, vars[0] = 20, 30
	second := ask(l, vars, 0)
	l[2].Op = 0
	third := ask(l, vars, 0)
	if first != (answer{true, true, 5, api.OK}) || second != (answer{true, true, 50, api.OK}) || third != (answer{e: api.ErrForm}) {
		t.Errorf("P0.3: what was handed in is kept: %v, %v, %v", first, second, third)
	}
}

func TestNilIsAsEmpty(t *testing.T) {
	for _, vars := range [][]int64{nil, {}, {1}} {
		if a, b := ask(nil, vars, 7), ask([]api.Tok{}, vars, 7); a != b || a != (answer{holds: true, e: api.ErrForm}) {
			t.Errorf("P0.4: of a nil formula %v, of an empty one %v", a, b)
		}
	}
	for _, l := range [][]api.Tok{nil, {}, {c(4)}, {v(0)}, {o(api.TokArg), o(api.TokNot)}, {c(1), c(2)}} {
		if a, b := ask(l, nil, 7), ask(l, []int64{}, 7); a != b {
			t.Errorf("P0.4: of %v with nil variables %v, with empty ones %v", l, a, b)
		}
	}
}

func TestAnswersHangOnArgumentsAlone(t *testing.T) {
	type call struct {
		l    []api.Tok
		vars []int64
		arg  int64
	}
	rnd := rand.New(rand.NewSource(6))
	var calls []call
	var answers []answer
	for range 3000 {
		x := call{formula(rnd, 1+rnd.Intn(25), 2), []int64{number(rnd), number(rnd)}, number(rnd)}
		calls = append(calls, x)
		answers = append(answers, ask(x.l, x.vars, x.arg))
	}
	for _, i := range rnd.Perm(len(calls)) {
		x := calls[i]
		// The same numbers elsewhere, with more room behind them.
		l := append(make([]api.Tok, 0, 99), x.l...)
		vars := append(make([]int64, 0, 99), x.vars...)
		if got := ask(l, vars, x.arg); got != answers[i] {
			t.Fatalf("P0.5: of %v, %v, %d: %v, before %v", x.l, x.vars, x.arg, got, answers[i])
		}
	}
}
