package expr_test

import (
	"math"
	"math/big"
	"math/rand"
	"testing"

	"scrutineer/api"
	"scrutineer/expr"
)

// counts are numbers of variables that there may be.
var counts = []int{math.MinInt, -1, 0, 1, 2, 7, 8, 9, math.MaxInt}

// numbers are those at the edges of 64 bits, of 32, and about 0.
var numbers = []int64{
	0, 1, -1, 2, -2, 3, -3, 7, 10, -10,
	1<<31 - 1, 1 << 31, -1 << 31, 1<<32 - 1, 1 << 32, 1<<32 + 1, -1 << 32, 3037000499, 3037000500, -3037000500,
	1<<62 - 1, 1 << 62, 1<<62 + 1, -1 << 62, -1<<62 - 1, -1<<62 + 1,
	math.MaxInt64/2 + 1, math.MaxInt64 / 3, math.MinInt64 / 3, math.MaxInt64 - 1, math.MaxInt64, math.MinInt64, math.MinInt64 + 1,
}

// c is a constant.
func c(n int64) api.Tok { return api.Tok{Op: api.TokConst, N: n} }

// v is a variable.
func v(n int64) api.Tok { return api.Tok{Op: api.TokVar, N: n} }

// o is a sign without a number.
func o(op uint8) api.Tok { return api.Tok{Op: op} }

// of is a formula of signs without numbers, of each the Op, 0 stands for a constant 1.
func of(ops ...uint8) []api.Tok {
	var l []api.Tok
	for _, op := range ops {
		if op == 0 {
			l = append(l, c(1))
		} else {
			l = append(l, o(op))
		}
	}
	return l
}

// ops are so many signs of one Op.
func ops(n int, op uint8) []uint8 {
	l := make([]uint8, n)
	for i := range l {
		l[i] = op
	}
	return l
}

// mayModel tells whether a formula may be, by a count of what lies on the stack.
func mayModel(l []api.Tok, vars int) bool {
	if len(l) == 0 || len(l) > 24 {
		return false
	}
	lies := 0
	for _, t := range l {
		switch {
		case t.Op == 1:
			lies++
		case t.Op == 2 && t.N >= 0 && big.NewInt(t.N).Cmp(big.NewInt(int64(vars))) < 0:
			lies++
		case t.Op == 3 && t.N == 0:
			lies++
		case t.Op >= 4 && t.Op <= 10 && t.N == 0 && lies >= 2:
			lies--
		case t.Op == 11 && t.N == 0 && lies >= 1:
		default:
			return false
		}
	}
	return lies == 1
}

// bothModel is what two numbers come to, with room for all.
func bothModel(op uint8, a, b *big.Int) *big.Int {
	tell := func(holds bool) *big.Int {
		if holds {
			return big.NewInt(1)
		}
		return new(big.Int)
	}
	switch op {
	case 4:
		return new(big.Int).Add(a, b)
	case 5:
		return new(big.Int).Sub(a, b)
	case 6:
		return new(big.Int).Mul(a, b)
	case 7:
		return tell(a.Cmp(b) < 0)
	case 8:
		return tell(a.Cmp(b) == 0)
	case 9:
		return tell(a.Sign() != 0 && b.Sign() != 0)
	}
	return tell(a.Sign() != 0 || b.Sign() != 0)
}

// evalModel is what a formula comes to, with numbers that never run out of bits, each held against 64 of them.
func evalModel(l []api.Tok, vars []int64, arg int64) (int64, api.Errno) {
	if !mayModel(l, len(vars)) {
		return 0, api.ErrForm
	}
	var lie []*big.Int
	for _, t := range l {
		switch t.Op {
		case 1:
			lie = append(lie, big.NewInt(t.N))
		case 2:
			lie = append(lie, big.NewInt(vars[t.N]))
		case 3:
			lie = append(lie, big.NewInt(arg))
		case 11:
			last := lie[len(lie)-1]
			lie[len(lie)-1] = bothModel(8, last, new(big.Int))
		default:
			n := bothModel(t.Op, lie[len(lie)-2], lie[len(lie)-1])
			if !n.IsInt64() {
				return 0, api.ErrCalc
			}
			lie = append(lie[:len(lie)-2], n)
		}
	}
	return lie[0].Int64(), api.OK
}

// asSaid holds every call's answers about a formula against the model's.
func asSaid(t *testing.T, l []api.Tok, vars []int64, arg int64) {
	t.Helper()
	if got, want := expr.May(l, len(vars)), mayModel(l, len(vars)); got != want {
		t.Fatalf("P4.1: May of %v, %d: %v", l, len(vars), got)
	}
	n, e := evalModel(l, vars, arg)
	if got, x := expr.Eval(l, vars, arg); got != n || x != e {
		t.Fatalf("P4.1: Eval of %v, %v, %d: %d, %v, not %d, %v", l, vars, arg, got, x, n, e)
	}
	holds := len(l) == 0 || e == api.OK && n != 0
	if got := expr.Holds(l, vars, arg); got != holds {
		t.Fatalf("P4.1: Holds of %v, %v, %d: %v", l, vars, arg, got)
	}
}

func TestAllShortFormulas(t *testing.T) {
	signs := []api.Tok{c(0), c(2), c(math.MaxInt64), c(math.MinInt64), v(0), v(1), o(0), o(12), {Op: api.TokArg, N: 1}}
	for op := api.TokArg; op <= api.TokNot; op++ {
		signs = append(signs, o(op))
	}
	vars := []int64{-1}
	var longer func(l []api.Tok)
	longer = func(l []api.Tok) {
		asSaid(t, l, vars, 3)
		if len(l) == 4 {
			return
		}
		for _, s := range signs {
			longer(append(l, s))
		}
	}
	longer(nil)
}

// number is one that is often at an edge, often small.
func number(rnd *rand.Rand) int64 {
	switch rnd.Intn(3) {
	case 0:
		return numbers[rnd.Intn(len(numbers))]
	case 1:
		return int64(rnd.Intn(7) - 3)
	}
	return int64(rnd.Uint64()) >> rnd.Intn(64)
}

// formula is one that may be, of as many signs as asked, with so many variables.
func formula(rnd *rand.Rand, signs, vars int) []api.Tok {
	var l []api.Tok
	lies := 0
	for left := signs; left > 0; left-- {
		// What lies there beside the last one must still be taken off.
		grows := lies == 0 || lies < left && rnd.Intn(2) == 0
		switch {
		case grows && left == 2 && lies == 1:
			l = append(l, o(api.TokNot))
		case grows && vars > 0 && rnd.Intn(3) == 0:
			l = append(l, v(int64(rnd.Intn(vars))))
			lies++
		case grows && rnd.Intn(4) == 0:
			l = append(l, o(api.TokArg))
			lies++
		case grows:
			l = append(l, c(number(rnd)))
			lies++
		case lies > 1 && (lies > left || rnd.Intn(4) > 0):
			l = append(l, o(api.TokAdd+uint8(rnd.Intn(7))))
			lies--
		default:
			l = append(l, o(api.TokNot))
		}
	}
	return l
}

func TestFormulasThatMayBe(t *testing.T) {
	rnd := rand.New(rand.NewSource(1))
	came := map[api.Errno]int{}
	for range 300_000 {
		vars := make([]int64, rnd.Intn(api.MaxVars+1))
		for i := range vars {
			vars[i] = number(rnd)
		}
		l := formula(rnd, 1+rnd.Intn(api.MaxToks), len(vars))
		arg := number(rnd)
		asSaid(t, l, vars, arg)
		_, e := evalModel(l, vars, arg)
		came[e]++
	}
	if came[api.OK] < 50_000 || came[api.ErrCalc] < 10_000 || came[api.ErrForm]*10 > came[api.OK] {
		t.Error("P4.1: the formulas that are tried don't come to enough:", came)
	}
}

func TestFormulasWithFaults(t *testing.T) {
	rnd := rand.New(rand.NewSource(2))
	for range 300_000 {
		vars := make([]int64, rnd.Intn(4))
		for i := range vars {
			vars[i] = number(rnd)
		}
		l := formula(rnd, 1+rnd.Intn(api.MaxToks+2), len(vars))
		at := rnd.Intn(len(l))
		switch rnd.Intn(6) {
		case 0:
			l[at].Op = uint8(rnd.Intn(14))
		case 1:
			l[at].N = number(rnd)
		case 2:
			l = append(l[:at], l[at+1:]...)
		case 3:
			l = append(l, l[at])
		case 4:
			k := rnd.Intn(len(l))
			l[at], l[k] = l[k], l[at]
		case 5:
			vars = vars[:rnd.Intn(len(vars)+1)]
		}
		asSaid(t, l, vars, number(rnd))
	}
}
