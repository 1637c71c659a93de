package reg_test

import (
	"math/rand"
	"reflect"
	"testing"

	"scrutineer/api"
	"scrutineer/reg"
)

// asSame holds Same and SameReply of two registers, and of their first replies, against the model.
func asSame(t *testing.T, a, b api.Reg) bool {
	t.Helper()
	want := same(a, b)
	if reg.Same(a, b) != want || reg.Same(b, a) != want {
		t.Fatalf("P6.1: Same of %v and %v isn't %v", a, b, want)
	}
	if len(a.Done) > 0 && len(b.Done) > 0 {
		p, q := a.Done[0].Reply, b.Done[0].Reply
		want := same(p, q)
		if reg.SameReply(p, q) != want || reg.SameReply(q, p) != want {
			t.Fatalf("P6.1: SameReply of %v and %v isn't %v", p, q, want)
		}
	}
	return want
}

func TestSameOfEachNumber(t *testing.T) {
	for _, x := range []api.Reg{{}, plain(), tomb(), largest()} {
		y := clone(x, 0)
		if !asSame(t, x, y) {
			t.Fatalf("P6.1: Same of %v and itself", x)
		}
		for at, leaf := range numbersOf(&y) {
			for _, n := range []uint64{0, 1, 77, 1 << 63, 1<<64 - 1} {
				if leaf.Kind() == reflect.Uint8 {
					n %= 256
				}
				z := clone(x, 0)
				set(numbersOf(&z)[at], n)
				asSame(t, x, z)
			}
		}
	}
}

func TestSameOfHowMany(t *testing.T) {
	for name, change := range map[string]func(r *api.Reg){
		"a variable more":         func(r *api.Reg) { r.Vars = append(r.Vars, 0) },
		"a variable less":         func(r *api.Reg) { r.Vars = r.Vars[:1] },
		"no variables":            func(r *api.Reg) { r.Vars = nil },
		"an entry more":           func(r *api.Reg) { r.Done = append(r.Done, api.Done{}) },
		"an entry less":           func(r *api.Reg) { r.Done = r.Done[:1] },
		"no entries":              func(r *api.Reg) { r.Done = nil },
		"a cell more":             func(r *api.Reg) { r.Out = append(r.Out, api.Cell{}) },
		"a cell less":             func(r *api.Reg) { r.Out = r.Out[:1] },
		"no cells":                func(r *api.Reg) { r.Out = nil },
		"a mark more":             func(r *api.Reg) { r.Marks = append(r.Marks, api.Mark{}) },
		"a mark less":             func(r *api.Reg) { r.Marks = r.Marks[1:] },
		"no marks":                func(r *api.Reg) { r.Marks = nil },
		"a reply's variable more": func(r *api.Reg) { r.Done[1].Reply.Vars = append(r.Done[1].Reply.Vars, 0) },
		"a reply's variable less": func(r *api.Reg) { r.Done[0].Reply.Vars = r.Done[0].Reply.Vars[:1] },
		"entries the other way":   func(r *api.Reg) { reflect.Swapper(r.Done)(0, 1) },
		"cells the other way":     func(r *api.Reg) { reflect.Swapper(r.Out)(0, 1) },
		"marks the other way":     func(r *api.Reg) { reflect.Swapper(r.Marks)(0, 1) },
		"variables the other way": func(r *api.Reg) { reflect.Swapper(r.Vars)(0, 1) },
	} {
		r := plain()
		if change(&r); reg.Same(r, plain()) || reg.Same(plain(), r) {
			t.Errorf("P6.1: Same of a register and one with %s", name)
		}
	}
	if reg.Same(plain(), api.Reg{}) || reg.Same(plain(), tomb()) || !reg.Same(api.Reg{}, api.Reg{}) {
		t.Error("P6.1: Same of registers of other kinds")
	}
}

func TestSameReply(t *testing.T) {
	x := api.Reply{Err: 3, Inc: 4, State: 5, Vars: []int64{6, 7}}
	for _, y := range []struct {
		r    api.Reply
		want bool
	}{
		{x, true},
		{api.Reply{Err: 3, Inc: 4, State: 5, Vars: []int64{6, 7}}, true},
		{api.Reply{Err: 2, Inc: 4, State: 5, Vars: []int64{6, 7}}, false},
		{api.Reply{Err: -3, Inc: 4, State: 5, Vars: []int64{6, 7}}, false},
		{api.Reply{Err: 3, Inc: 5, State: 5, Vars: []int64{6, 7}}, false},
		{api.Reply{Err: 3, Inc: 4, State: 4, Vars: []int64{6, 7}}, false},
		{api.Reply{Err: 3, Inc: 4, State: 5, Vars: []int64{7, 6}}, false},
		{api.Reply{Err: 3, Inc: 4, State: 5, Vars: []int64{6}}, false},
		{api.Reply{Err: 3, Inc: 4, State: 5, Vars: []int64{6, 7, 0}}, false},
		{api.Reply{Err: 3, Inc: 4, State: 5}, false},
		{api.Reply{}, false},
	} {
		if reg.SameReply(x, y.r) != y.want || reg.SameReply(y.r, x) != y.want {
			t.Errorf("P6.1: SameReply of %v and %v isn't %v", x, y.r, y.want)
		}
	}
	// Replies that may not be are held against each other, too.
	odd := api.Reply{Err: 100, State: -1, Vars: make([]int64, 9)}
	if !reg.SameReply(odd, api.Reply{Err: 100, State: -1, Vars: make([]int64, 9)}) || reg.SameReply(odd, api.Reply{}) {
		t.Error("P6.1: SameReply of replies that may not be")
	}
	if !reg.SameReply(api.Reply{}, api.Reply{}) {
		t.Error("P6.1: SameReply of zero replies")
	}
}

func TestSameOfRegistersWithFaults(t *testing.T) {
	rnd := rand.New(rand.NewSource(3))
	came := map[bool]int{}
	for range 20_000 {
		a := register(rnd)
		b := clone(a, rnd.Intn(3))
		for range rnd.Intn(3) {
			fault(rnd, &b)
		}
		came[asSame(t, a, b)]++
	}
	if came[true] < 5000 || came[false] < 5000 {
		t.Error("P6.1: the registers that are tried don't come to enough:", came)
	}
}

func TestClone(t *testing.T) {
	// What may not be has the same, too.
	odd := api.Reg{Kind: 7, State: -1, Vars: make([]int64, 20), Done: make([]api.Done, 20), Out: make([]api.Cell, 20), Marks: make([]api.Mark, 20)}
	for _, x := range []api.Reg{{}, {Inc: 1}, plain(), tomb(), largest(), odd} {
		if y := reg.Clone(x); !same(y, x) {
			t.Errorf("P6.1: Clone of %v: %v", x, y)
		}
	}
}

func TestCloneIsNewMemory(t *testing.T) {
	for _, x := range []func() api.Reg{plain, tomb, largest} {
		r := x()
		first, second := reg.Clone(r), reg.Clone(r)
		spoil(first)
		if !same(r, x()) || !same(second, x()) {
			t.Errorf("P6.1: who writes into a clone changes %v, or another clone: %v", r, second)
		}
		spoil(r)
		if !same(second, x()) {
			t.Errorf("P6.1: a clone changes with what it was made of: %v", second)
		}
	}
}
