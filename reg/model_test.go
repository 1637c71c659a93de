package reg_test

import (
	"encoding/binary"
	"math"
	"math/rand"
	"reflect"
	"testing"

	"scrutineer/api"
	"scrutineer/pack"
	"scrutineer/reg"
)

// numbers are those at the edges of 64 bits, and of what a register may have.
var numbers = []int{math.MinInt, math.MinInt + 1, -1, 0, 1, 2, 7, 8, 9, 15, 16, 31, 32, 33, 98, 99, 100, 255, 256, 1000, 1001, math.MaxInt - 1, math.MaxInt}

// counts are those at the edges of 64 bits without a sign.
var counts = []uint64{0, 1, 2, 3, 127, 128, 1 << 32, 1<<63 - 1, 1 << 63, math.MaxUint64 - 1, math.MaxUint64}

// values are variables at the edges of 64 bits, and of how many bytes they have.
var values = []int64{math.MinInt64, math.MinInt64 + 1, -65, -64, -1, 0, 1, 63, 64, math.MaxInt64 - 1, math.MaxInt64}

// mayState tells whether a state and variables may be, number by number.
func mayState(state int, vars []int64) bool {
	return state >= 0 && state <= 31 && len(vars) <= 8
}

// mayModel tells whether a register may be: number by number, as the chapter names them.
func mayModel(r api.Reg) bool {
	if r.Kind == 0 {
		return r.Inc == 0 && r.State == 0 && len(r.Vars) == 0 && len(r.Done) == 0 && len(r.Out) == 0 && r.Last == 0 && len(r.Marks) == 0
	}
	ok := (r.Kind == 1 || r.Kind == 2) && r.Inc > 0 && mayState(r.State, r.Vars)
	ok = ok && len(r.Done) <= 8 && len(r.Out) <= 8 && len(r.Marks) <= 16
	for i, d := range r.Done {
		ok = ok && d.Client >= 1 && d.Client <= 8 && d.Seq > 0
		ok = ok && d.Reply.Err >= 0 && d.Reply.Err <= 99 && mayState(d.Reply.State, d.Reply.Vars)
		for _, before := range r.Done[:i] {
			ok = ok && before.Client < d.Client
		}
	}
	for i, c := range r.Out {
		ok = ok && c.N >= 1 && c.N <= r.Last && c.Target <= 15 && c.Action >= 0 && c.Action <= 31
		for _, before := range r.Out[:i] {
			ok = ok && before.N < c.N
		}
	}
	for i, m := range r.Marks {
		ok = ok && m.Source <= 15 && m.Inc > 0 && m.Cell > 0
		for _, before := range r.Marks[:i] {
			ok = ok && before.Source < m.Source
		}
	}
	return ok && (r.Kind == 1 || r.State == 0 && len(r.Vars) == 0 && len(r.Out) == 0)
}

// same tells whether two values are the same; a nil list is as an empty one.
func same[T any](x, y T) bool {
	return alike(reflect.ValueOf(x), reflect.ValueOf(y))
}

// alike tells it of two values of one type.
func alike(x, y reflect.Value) bool {
	switch x.Kind() {
	case reflect.Slice:
		if x.Len() != y.Len() {
			return false
		}
		for i := range x.Len() {
			if !alike(x.Index(i), y.Index(i)) {
				return false
			}
		}
		return true
	case reflect.Struct:
		for i := range x.NumField() {
			if !alike(x.Field(i), y.Field(i)) {
				return false
			}
		}
		return true
	}
	return x.Equal(y)
}

// putModel are a register's bytes as the library puts them.
func putModel(r api.Reg) []byte {
	var b []byte
	nums := func(l ...uint64) {
		for _, n := range l {
			b = binary.AppendUvarint(b, n)
		}
	}
	state := func(state int, vars []int64) {
		nums(uint64(state), uint64(len(vars)))
		for _, n := range vars {
			b = binary.AppendVarint(b, n)
		}
	}
	nums(uint64(r.Kind))
	if r.Kind == 0 {
		return b
	}
	nums(r.Inc)
	state(r.State, r.Vars)
	nums(uint64(len(r.Done)))
	for _, d := range r.Done {
		nums(uint64(d.Client), d.Seq, uint64(d.Reply.Err), d.Reply.Inc)
		state(d.Reply.State, d.Reply.Vars)
	}
	nums(uint64(len(r.Out)))
	for _, c := range r.Out {
		nums(c.N, uint64(c.Target), uint64(c.Action))
		b = binary.AppendVarint(b, c.Arg)
	}
	nums(r.Last, uint64(len(r.Marks)))
	for _, m := range r.Marks {
		nums(uint64(m.Source), m.Inc, m.Cell)
	}
	return b
}

// getModel takes a register from bytes by the library; its first error stays.
type getModel struct {
	b []byte
	e api.Errno
}

// take is the next number.
func (g *getModel) take(most uint64) uint64 {
	if g.e != api.OK {
		return 0
	}
	n, size := binary.Uvarint(g.b)
	switch {
	case size == 0 && len(g.b) < 10:
		g.e = api.ErrShort
	case size <= 0, size > 1 && g.b[size-1] == 0:
		g.e = api.ErrForm
	case n > most:
		g.e = api.ErrRange
	}
	if g.e != api.OK {
		return 0
	}
	g.b = g.b[size:]
	return n
}

// vars are the next variables.
func (g *getModel) vars() []int64 {
	var l []int64
	for range g.take(1000) {
		l = append(l, g.int())
	}
	return l
}

// int is the next whole number.
func (g *getModel) int() int64 {
	n := g.take(math.MaxUint64)
	return int64(n>>1) ^ -int64(n&1)
}

// reg is what Get should answer, and the reader's error behind it.
func (g *getModel) reg() (api.Reg, api.Errno) {
	var r api.Reg
	r.Kind = uint8(g.take(255))
	if r.Kind > 0 {
		g.rest(&r)
	}
	if g.e == api.OK && !mayModel(r) {
		g.e = api.ErrForm
	}
	if g.e != api.OK {
		return api.Reg{}, g.e
	}
	return r, api.OK
}

// rest takes all behind the Kind.
func (g *getModel) rest(r *api.Reg) {
	r.Inc = g.take(math.MaxUint64)
	r.State = int(g.take(1000))
	r.Vars = g.vars()
	for range g.take(1000) {
		var d api.Done
		d.Client = uint8(g.take(255))
		d.Seq = g.take(math.MaxUint64)
		d.Reply.Err = api.Errno(g.take(1000))
		d.Reply.Inc = g.take(math.MaxUint64)
		d.Reply.State = int(g.take(1000))
		d.Reply.Vars = g.vars()
		r.Done = append(r.Done, d)
	}
	for range g.take(1000) {
		var c api.Cell
		c.N = g.take(math.MaxUint64)
		c.Target = uint8(g.take(255))
		c.Action = int(g.take(1000))
		c.Arg = g.int()
		r.Out = append(r.Out, c)
	}
	r.Last = g.take(math.MaxUint64)
	for range g.take(1000) {
		var m api.Mark
		m.Source = uint8(g.take(255))
		m.Inc = g.take(math.MaxUint64)
		m.Cell = g.take(math.MaxUint64)
		r.Marks = append(r.Marks, m)
	}
}

// get is what Get answers of bytes, and the reader's error; ErrLong, if bytes are left.
func get(b []byte) (api.Reg, api.Errno) {
	p := pack.New(b)
	r := reg.Get(p)
	return r, p.End()
}

// one of a list.
func one[T any](rnd *rand.Rand, l []T) T { return l[rnd.Intn(len(l))] }

// count is a number, mostly a small one, never 0.
func count(rnd *rand.Rand) uint64 {
	if rnd.Intn(4) == 0 {
		return one(rnd, counts[1:])
	}
	return 1 + uint64(rnd.Intn(300))
}

// vars are variables, as many as there may be at most.
func vars(rnd *rand.Rand) []int64 {
	var l []int64
	for range rnd.Intn(api.MaxVars + 1) {
		if rnd.Intn(4) == 0 {
			l = append(l, one(rnd, values))
		} else {
			l = append(l, int64(rnd.Intn(9)-4))
		}
	}
	return l
}

// register is one that may be.
func register(rnd *rand.Rand) api.Reg {
	if rnd.Intn(20) == 0 {
		return api.Reg{}
	}
	r := api.Reg{Kind: api.Tomb, Inc: count(rnd), Last: count(rnd) - 1}
	few := 1 + rnd.Intn(5)
	for client := range uint8(api.MaxClients) {
		if rnd.Intn(few) == 0 {
			d := api.Done{Client: client + 1, Seq: count(rnd)}
			d.Reply = api.Reply{Err: api.Errno(rnd.Intn(100)), Inc: count(rnd) - 1, State: rnd.Intn(32), Vars: vars(rnd)}
			r.Done = append(r.Done, d)
		}
	}
	for source := range uint8(api.MaxKeys) {
		if rnd.Intn(few) == 0 {
			r.Marks = append(r.Marks, api.Mark{Source: source, Inc: count(rnd), Cell: count(rnd)})
		}
	}
	if rnd.Intn(5) > 0 {
		r.Kind = api.Live
		r.State = rnd.Intn(32)
		r.Vars = vars(rnd)
		r.Out = cells(rnd, r.Last)
	}
	return r
}

// cells are some that wait, with numbers up to the last one.
func cells(rnd *rand.Rand, last uint64) []api.Cell {
	var l []api.Cell
	n := uint64(0)
	for range rnd.Intn(api.MaxCells + 1) {
		step := 1 + uint64(rnd.Intn(5))
		if rnd.Intn(10) == 0 {
			step = last - n
		}
		if step == 0 || step > last-n {
			break
		}
		n += step
		l = append(l, api.Cell{N: n, Target: uint8(rnd.Intn(16)), Action: rnd.Intn(32), Arg: one(rnd, values)})
	}
	return l
}

// largest has as much as a register may have of all.
func largest() api.Reg {
	full := []int64{math.MinInt64, 2, 3, 4, 5, 6, 7, math.MaxInt64}
	r := api.Reg{Kind: api.Live, Inc: math.MaxUint64, State: 31, Vars: append([]int64{}, full...), Last: math.MaxUint64}
	for i := range uint8(8) {
		reply := api.Reply{Err: 99, Inc: math.MaxUint64, State: 31, Vars: append([]int64{}, full...)}
		r.Done = append(r.Done, api.Done{Client: i + 1, Seq: math.MaxUint64, Reply: reply})
		r.Out = append(r.Out, api.Cell{N: math.MaxUint64 - 7 + uint64(i), Target: 15, Action: 31, Arg: math.MinInt64})
	}
	for i := range uint8(16) {
		r.Marks = append(r.Marks, api.Mark{Source: i, Inc: math.MaxUint64, Cell: math.MaxUint64})
	}
	return r
}

// leaves are all numbers of a register, as what they can be set by.
func leaves(x reflect.Value) []reflect.Value {
	var l []reflect.Value
	switch x.Kind() {
	case reflect.Slice:
		for i := range x.Len() {
			l = append(l, leaves(x.Index(i))...)
		}
	case reflect.Struct:
		for i := range x.NumField() {
			l = append(l, leaves(x.Field(i))...)
		}
	default:
		l = append(l, x)
	}
	return l
}

// set sets a number.
func set(leaf reflect.Value, n uint64) {
	if leaf.CanInt() {
		leaf.SetInt(int64(n))
	} else {
		leaf.SetUint(n)
	}
}

// numbersOf are all of a register's numbers, each to be set.
func numbersOf(r *api.Reg) []reflect.Value {
	return leaves(reflect.ValueOf(r).Elem())
}

// fault changes a register in one place, often so that it may not be.
func fault(rnd *rand.Rand, r *api.Reg) {
	swap := func(n int, by func(i, k int)) {
		if n > 1 {
			by(rnd.Intn(n), rnd.Intn(n))
		}
	}
	switch rnd.Intn(9) {
	case 0:
		r.Kind = uint8(rnd.Intn(4))
	case 1:
		swap(len(r.Done), reflect.Swapper(r.Done))
	case 2:
		swap(len(r.Out), reflect.Swapper(r.Out))
	case 3:
		swap(len(r.Marks), reflect.Swapper(r.Marks))
	case 4:
		swap(len(r.Done), func(i, k int) { r.Done[i].Client = r.Done[k].Client })
	case 5:
		swap(len(r.Out), func(i, k int) { r.Out[i].N = r.Out[k].N })
	case 6:
		swap(len(r.Marks), func(i, k int) { r.Marks[i].Source = r.Marks[k].Source })
	default:
		set(one(rnd, numbersOf(r)), uint64(one(rnd, numbers)))
	}
}

// asSaid holds May, Put, Same and Clone of a register against the models.
func asSaid(t *testing.T, r api.Reg) bool {
	t.Helper()
	may := mayModel(r)
	if got := reg.May(r); got != may {
		t.Fatalf("P6.1: May of %v: %v", r, got)
	}
	b, e := reg.Put([]byte("ahead"), r)
	if may && (e != api.OK || string(b) != "ahead"+string(putModel(r))) {
		t.Fatalf("P6.1: Put of %v: %x, %v, not %x", r, b, e, putModel(r))
	}
	if !may && (e != api.ErrForm || len(b) > 0) {
		t.Fatalf("P6.1: Put of %v: %x, %v", r, b, e)
	}
	if c := reg.Clone(r); !same(c, r) || !reg.Same(c, r) {
		t.Fatalf("P6.1: Clone of %v: %v", r, c)
	}
	return may
}

func TestRegistersThatMayBe(t *testing.T) {
	rnd := rand.New(rand.NewSource(1))
	came := map[uint8]int{}
	for range 30_000 {
		r := register(rnd)
		if !asSaid(t, r) {
			t.Fatalf("P6.1: a register that is tried may not be: %v", r)
		}
		came[r.Kind]++
	}
	if came[api.Absent] < 1000 || came[api.Live] < 15_000 || came[api.Tomb] < 4000 {
		t.Error("P6.1: the registers that are tried don't come to enough:", came)
	}
}

func TestRegistersWithFaults(t *testing.T) {
	rnd := rand.New(rand.NewSource(2))
	came := map[bool]int{}
	for range 50_000 {
		r := register(rnd)
		fault(rnd, &r)
		came[asSaid(t, r)]++
	}
	if came[true] < 5000 || came[false] < 15_000 {
		t.Error("P6.1: the registers that are tried don't come to enough:", came)
	}
}
