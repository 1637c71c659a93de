package engine_test

import (
	"math"
	"testing"

	"scrutineer/api"
	"scrutineer/engine"
)

// mayModel tells whether an operation may be: number by number, as the chapter names them.
func mayModel(o api.Op) bool {
	ofClient, known := map[uint8]int{1: 1, 2: 1, 3: 1, 4: 1, 5: 0, 6: 0, 7: 0}[o.Kind]
	ok := known && o.Key <= 15 && o.Source <= 15 && o.Client <= 8
	ok = ok && (o.Client > 0) == (ofClient == 1) && (o.Seq > 0) == (ofClient == 1)
	ok = ok && o.Action >= 0 && o.Action <= 31 && o.Party >= 0 && o.Party <= 7
	if o.Kind == 2 {
		ok = ok && o.Party >= 1
	}
	if o.Kind == 5 || o.Kind == 6 {
		ok = ok && o.Inc > 0 && o.Cell > 0
	}
	return ok
}

func TestMayOfEachKind(t *testing.T) {
	create := api.Op{Kind: api.OpCreate, Client: 1, Seq: 1}
	fire := api.Op{Kind: api.OpFire, Client: 1, Seq: 1, Party: 1}
	consume := api.Op{Kind: api.OpConsume, Inc: 1, Cell: 1}
	clear := api.Op{Kind: api.OpClear, Inc: 1, Cell: 1}
	same := api.Op{Kind: api.OpSame}
	for _, x := range []struct {
		name   string
		o      api.Op
		change func(o *api.Op)
		want   bool
	}{
		{"a create", create, func(o *api.Op) {}, true},
		{"a read", create, func(o *api.Op) { o.Kind = api.OpRead }, true},
		{"a delete", create, func(o *api.Op) { o.Kind = api.OpDelete }, true},
		{"a fire", fire, func(o *api.Op) {}, true},
		{"a consume", consume, func(o *api.Op) {}, true},
		{"a clear", clear, func(o *api.Op) {}, true},
		{"a same", same, func(o *api.Op) {}, true},
		{"nothing", api.Op{}, func(o *api.Op) {}, false},
		{"the kind 0 of a client", create, func(o *api.Op) { o.Kind = 0 }, false},
		{"the kind 8", same, func(o *api.Op) { o.Kind = 8 }, false},
		{"the kind 8 of a client", fire, func(o *api.Op) { o.Kind = 8 }, false},
		{"the kind 255", consume, func(o *api.Op) { o.Kind = 255 }, false},

		{"a create of none", create, func(o *api.Op) { o.Client, o.Seq = 0, 0 }, false},
		{"a read of none", create, func(o *api.Op) { o.Kind, o.Client, o.Seq = api.OpRead, 0, 0 }, false},
		{"a delete of none", create, func(o *api.Op) { o.Kind, o.Client, o.Seq = api.OpDelete, 0, 0 }, false},
		{"a fire of none", fire, func(o *api.Op) { o.Client, o.Seq = 0, 0 }, false},
		{"a consume of a client", consume, func(o *api.Op) { o.Client, o.Seq = 1, 1 }, false},
		{"a clear of a client", clear, func(o *api.Op) { o.Client, o.Seq = 1, 1 }, false},
		{"a same of a client", same, func(o *api.Op) { o.Client, o.Seq = 1, 1 }, false},
		{"a client without a number", create, func(o *api.Op) { o.Seq = 0 }, false},
		{"a number without a client", same, func(o *api.Op) { o.Seq = 1 }, false},
		{"a number without a client, of a create", create, func(o *api.Op) { o.Client = 0 }, false},
		{"the last client", create, func(o *api.Op) { o.Client = 8 }, true},
		{"a client more", create, func(o *api.Op) { o.Client = 9 }, false},
		{"the highest number", create, func(o *api.Op) { o.Seq = math.MaxUint64 }, true},

		{"the last key", create, func(o *api.Op) { o.Key = 15 }, true},
		{"a key more", create, func(o *api.Op) { o.Key = 16 }, false},
		{"the last source", consume, func(o *api.Op) { o.Source = 15 }, true},
		{"a source more", consume, func(o *api.Op) { o.Source = 16 }, false},
		{"a source more, of a create", create, func(o *api.Op) { o.Source = 16 }, false},
		{"a source more, of a same", same, func(o *api.Op) { o.Source = 16 }, false},

		{"a consume of no incarnation", consume, func(o *api.Op) { o.Inc = 0 }, false},
		{"a consume of no cell", consume, func(o *api.Op) { o.Cell = 0 }, false},
		{"a clear of no incarnation", clear, func(o *api.Op) { o.Inc = 0 }, false},
		{"a clear of no cell", clear, func(o *api.Op) { o.Cell = 0 }, false},
		{"the highest cell", clear, func(o *api.Op) { o.Inc, o.Cell = math.MaxUint64, math.MaxUint64 }, true},
		{"a create of a cell", create, func(o *api.Op) { o.Inc, o.Cell = 1, 1 }, true},

		{"the last action", fire, func(o *api.Op) { o.Action = 31 }, true},
		{"an action more", fire, func(o *api.Op) { o.Action = 32 }, false},
		{"an action more, of a same", same, func(o *api.Op) { o.Action = 32 }, false},
		{"an action below 0", fire, func(o *api.Op) { o.Action = -1 }, false},
		{"the last party", fire, func(o *api.Op) { o.Party = 7 }, true},
		{"a party more", fire, func(o *api.Op) { o.Party = 8 }, false},
		{"a party more, of a read", create, func(o *api.Op) { o.Kind, o.Party = api.OpRead, 8 }, false},
		{"a party below 0", consume, func(o *api.Op) { o.Party = -1 }, false},
		{"a fire of the party 0", fire, func(o *api.Op) { o.Party = 0 }, false},
		{"a consume of a party", consume, func(o *api.Op) { o.Party = 7 }, true},
		{"any argument", fire, func(o *api.Op) { o.Arg = math.MinInt64 }, true},
	} {
		x.change(&x.o)
		if got := engine.May(x.o); got != x.want {
			t.Errorf("P7.1: May of %s: %v", x.name, got)
		}
	}
}

// operations goes through all that numbers at their edges can make.
func operations(see func(o api.Op)) {
	var o api.Op
	bytes := func(place *uint8, l []uint8, then func()) {
		for _, *place = range l {
			then()
		}
	}
	ints := func(place *int, most int, then func()) {
		for _, *place = range []int{0, 1, most, math.MinInt, -1, most + 1, 257, math.MaxInt} {
			then()
		}
	}
	counts := func(place *uint64, then func()) {
		for _, *place = range []uint64{0, 1, math.MaxUint64} {
			then()
		}
	}
	bytes(&o.Kind, []uint8{0, 1, 2, 3, 4, 5, 6, 7, 8, 9, 128, 255}, func() {
		bytes(&o.Client, []uint8{0, 1, 8, 9, 255}, func() {
			counts(&o.Seq, func() {
				bytes(&o.Key, []uint8{0, 15, 16, 255}, func() {
					bytes(&o.Source, []uint8{0, 15, 16, 255}, func() {
						ints(&o.Action, api.MaxActions-1, func() {
							ints(&o.Party, api.MaxParties-1, func() {
								counts(&o.Inc, func() { counts(&o.Cell, func() { see(o) }) })
							})
						})
					})
				})
			})
		})
	})
}

func TestMayOfAllNumbersAtTheirEdges(t *testing.T) {
	came := 0
	operations(func(o api.Op) {
		want := mayModel(o)
		if got := engine.May(o); got != want {
			t.Fatalf("P7.1: May of %v: %v", o, got)
		}
		if want {
			came++
		}
	})
	if came < 5000 {
		t.Error("P7.1: the operations that are tried don't come to enough that may be:", came)
	}
}

func TestNext(t *testing.T) {
	cell := func(n uint64, target uint8) api.Cell {
		return api.Cell{N: n, Target: target, Action: int(n % 32), Arg: -int64(n)}
	}
	const top = math.MaxUint64
	for _, x := range []struct {
		name   string
		out    []api.Cell
		target uint8
		want   api.Cell
		has    bool
	}{
		{"no cells", nil, 0, api.Cell{}, false},
		{"one to it", []api.Cell{cell(3, 5)}, 5, cell(3, 5), true},
		{"one to another", []api.Cell{cell(3, 5)}, 4, api.Cell{}, false},
		{"one to the target 0", []api.Cell{cell(3, 0)}, 0, cell(3, 0), true},
		{"none to the target 0", []api.Cell{cell(3, 1)}, 0, api.Cell{}, false},
		{"two", []api.Cell{cell(3, 5), cell(4, 5)}, 5, cell(3, 5), true},
		{"the second one", []api.Cell{cell(3, 5), cell(4, 6)}, 6, cell(4, 6), true},
		{"among others", []api.Cell{cell(1, 2), cell(3, 5), cell(4, 2), cell(6, 5), cell(9, 2)}, 5, cell(3, 5), true},
		{"the last one", []api.Cell{cell(1, 2), cell(top-1, 2), cell(top, 15)}, 15, cell(top, 15), true},
		{"no such target", []api.Cell{cell(1, 15), cell(2, 15)}, 16, api.Cell{}, false},
		// Of registers that may not be, too.
		{"cells that don't rise", []api.Cell{cell(9, 5), cell(3, 5), cell(7, 5), cell(1, 4)}, 5, cell(3, 5), true},
		{"cells that fall", []api.Cell{cell(top, 5), cell(9, 5), cell(0, 5)}, 5, cell(0, 5), true},
		{"the number 0", []api.Cell{{Target: 5, Arg: 8}, {N: 1, Target: 5}}, 5, api.Cell{Target: 5, Arg: 8}, true},
		{"a target that can't be", []api.Cell{cell(9, 255)}, 255, cell(9, 255), true},
	} {
		for kind := range uint8(4) {
			r := api.Reg{Kind: kind, Out: x.out}
			if got, has := engine.Next(r, x.target); got != x.want || has != x.has {
				t.Errorf("P7.1: Next, %s, of a register of the kind %d: %v, %v", x.name, kind, got, has)
			}
		}
	}
}

func TestSettled(t *testing.T) {
	const top = math.MaxUint64
	marks := []api.Mark{{Source: 0, Inc: 5, Cell: 7}, {Source: 3, Inc: 1, Cell: 1}, {Source: 15, Inc: top, Cell: top}}
	for _, x := range []struct {
		source    uint8
		inc, cell uint64
		want      bool
	}{
		{0, 5, 7, true},
		{0, 5, 6, true},
		{0, 5, 0, true},
		{0, 5, 8, false},
		{0, 5, top, false},
		{0, 4, 7, true},
		{0, 4, 8, true},
		{0, 1, top, true},
		{0, 6, 7, false},
		{0, 6, 1, false},
		{0, 6, 0, false},
		{0, top, 1, false},
		{0, 0, 0, true},
		{1, 5, 7, false},
		{1, 0, 0, false},
		{3, 1, 1, true},
		{3, 1, 2, false},
		{3, 2, 1, false},
		{3, 0, top, true},
		{15, top, top, true},
		{15, top - 1, top, true},
		{15, 1, 1, true},
		{16, 0, 0, false},
		{255, 1, 1, false},
	} {
		for kind := range uint8(4) {
			r := api.Reg{Kind: kind, Marks: marks}
			if got := engine.Settled(r, x.source, x.inc, x.cell); got != x.want {
				t.Errorf("P7.1: Settled of %d, %d, %d, in a register of the kind %d: %v", x.source, x.inc, x.cell, kind, got)
			}
		}
		if engine.Settled(api.Reg{}, x.source, x.inc, x.cell) {
			t.Errorf("P7.1: Settled of %d, %d, %d, without marks", x.source, x.inc, x.cell)
		}
	}
	// Any mark of the source tells it, in a register that may not be, too.
	twice := api.Reg{Marks: []api.Mark{{Source: 9, Inc: 2, Cell: 2}, {Source: 4}, {Source: 9, Inc: 3, Cell: 1}, {Source: 200, Inc: 1}}}
	for _, x := range []struct {
		source    uint8
		inc, cell uint64
		want      bool
	}{{9, 2, 3, true}, {9, 3, 1, true}, {9, 3, 2, false}, {4, 0, 0, true}, {4, 0, 1, false}, {200, 1, 0, true}, {200, 1, 1, false}} {
		if got := engine.Settled(twice, x.source, x.inc, x.cell); got != x.want {
			t.Errorf("P7.1: Settled of %d, %d, %d, of two marks of a source: %v", x.source, x.inc, x.cell, got)
		}
	}
}
