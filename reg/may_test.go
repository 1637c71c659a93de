package reg_test

import (
	"math"
	"reflect"
	"testing"

	"scrutineer/api"
	"scrutineer/reg"
)

// plain is a register with some of each, that may be.
func plain() api.Reg {
	return api.Reg{
		Kind: api.Live, Inc: 5, State: 2, Vars: []int64{-1, 300},
		Done: []api.Done{
			{Client: 2, Seq: 7, Reply: api.Reply{Err: 13, Inc: 6, State: 1, Vars: []int64{4, -5}}},
			{Client: 4, Seq: 8},
		},
		Out:   []api.Cell{{N: 3, Target: 9, Action: 1, Arg: -5}, {N: 5, Target: 0, Action: 0, Arg: 6}},
		Last:  7,
		Marks: []api.Mark{{Source: 1, Inc: 2, Cell: 3}, {Source: 11, Inc: 4, Cell: 5}},
	}
}

// tomb is a tombstone, that may be.
func tomb() api.Reg {
	r := plain()
	r.Kind, r.State, r.Vars, r.Out = api.Tomb, 0, nil, nil
	return r
}

func TestMayOfKinds(t *testing.T) {
	if !reg.May(api.Reg{}) {
		t.Error("P6.1: May of an absent register")
	}
	for kind := range 256 {
		r, s := plain(), tomb()
		r.Kind, s.Kind = uint8(kind), uint8(kind)
		if got := reg.May(r); got != (kind == 1) {
			t.Errorf("P6.1: May of a register with cells, of the kind %d: %v", kind, got)
		}
		if got := reg.May(s); got != (kind == 1 || kind == 2) {
			t.Errorf("P6.1: May of a register without cells, of the kind %d: %v", kind, got)
		}
		if got := reg.May(api.Reg{Kind: uint8(kind), Inc: 1}); got != (kind == 1 || kind == 2) {
			t.Errorf("P6.1: May of a bare register of the kind %d: %v", kind, got)
		}
		if got := reg.May(api.Reg{Kind: uint8(kind)}); got != (kind == 0) {
			t.Errorf("P6.1: May of a register without Inc, of the kind %d: %v", kind, got)
		}
	}
}

func TestMayOfAbsent(t *testing.T) {
	for _, r := range []api.Reg{
		{Inc: 1},
		{State: 1},
		{State: -1},
		{Vars: []int64{0}},
		{Done: []api.Done{{}}},
		{Done: []api.Done{{Client: 1, Seq: 1}}},
		{Out: []api.Cell{{}}},
		{Last: 1},
		{Marks: []api.Mark{{}}},
		{Marks: []api.Mark{{Source: 1, Inc: 1, Cell: 1}}},
	} {
		if reg.May(r) {
			t.Errorf("P6.1: May of an absent register with more: %v", r)
		}
	}
}

func TestMayOfTombstones(t *testing.T) {
	if !reg.May(tomb()) || !reg.May(api.Reg{Kind: api.Tomb, Inc: 1, Last: 9}) {
		t.Error("P6.1: May of a tombstone")
	}
	for name, change := range map[string]func(r *api.Reg){
		"a state":    func(r *api.Reg) { r.State = 1 },
		"a variable": func(r *api.Reg) { r.Vars = []int64{0} },
		"a cell":     func(r *api.Reg) { r.Out = []api.Cell{{N: 1}} },
	} {
		r := tomb()
		if change(&r); reg.May(r) {
			t.Errorf("P6.1: May of a tombstone with %s", name)
		}
		r.Kind = api.Live
		if !reg.May(r) {
			t.Errorf("P6.1: May of a live register with %s", name)
		}
	}
}

func TestMayOfTheLargest(t *testing.T) {
	if !reg.May(largest()) {
		t.Error("P6.1: the largest register may be")
	}
	for name, grow := range map[string]func(r *api.Reg){
		"State":           func(r *api.Reg) { r.State++ },
		"Vars":            func(r *api.Reg) { r.Vars = append(r.Vars, 0) },
		"Done":            func(r *api.Reg) { r.Done = append(r.Done, api.Done{Client: 9, Seq: 1}) },
		"Client":          func(r *api.Reg) { r.Done[7].Client++ },
		"Err":             func(r *api.Reg) { r.Done[7].Reply.Err++ },
		"a reply's State": func(r *api.Reg) { r.Done[7].Reply.State++ },
		"a reply's Vars":  func(r *api.Reg) { r.Done[7].Reply.Vars = make([]int64, 9) },
		"cells":           func(r *api.Reg) { r.Out = append([]api.Cell{{N: 1}}, r.Out...) },
		"cells than Last": func(r *api.Reg) { r.Last-- },
		"Target":          func(r *api.Reg) { r.Out[7].Target++ },
		"Action":          func(r *api.Reg) { r.Out[7].Action++ },
		"Marks":           func(r *api.Reg) { r.Marks = append(r.Marks, api.Mark{Source: 16, Inc: 1, Cell: 1}) },
		"Source":          func(r *api.Reg) { r.Marks[15].Source++ },
		"at Seq":          func(r *api.Reg) { r.Done[7].Seq++ },
		"at Inc":          func(r *api.Reg) { r.Inc++ },
		"at a mark's Inc": func(r *api.Reg) { r.Marks[0].Inc++ },
		"at Cell":         func(r *api.Reg) { r.Marks[0].Cell++ },
	} {
		r := largest()
		if grow(&r); reg.May(r) {
			t.Errorf("P6.1: May of the largest register, with more: %s", name)
		}
	}
}

func TestMayOfEachNumber(t *testing.T) {
	for _, x := range []struct {
		name  string
		place func(r *api.Reg) any
		may   func(n int) bool
	}{
		{"Inc", func(r *api.Reg) any { return &r.Inc }, func(n int) bool { return n != 0 }},
		{"State", func(r *api.Reg) any { return &r.State }, func(n int) bool { return n >= 0 && n <= 31 }},
		{"Var", func(r *api.Reg) any { return &r.Vars[1] }, func(n int) bool { return true }},
		{"first Client", func(r *api.Reg) any { return &r.Done[0].Client }, func(n int) bool { return n >= 1 && n <= 3 }},
		{"second Client", func(r *api.Reg) any { return &r.Done[1].Client }, func(n int) bool { return n >= 3 && n <= 8 }},
		{"Seq", func(r *api.Reg) any { return &r.Done[1].Seq }, func(n int) bool { return n != 0 }},
		{"Err", func(r *api.Reg) any { return &r.Done[1].Reply.Err }, func(n int) bool { return n >= 0 && n <= 99 }},
		{"reply's Inc", func(r *api.Reg) any { return &r.Done[0].Reply.Inc }, func(n int) bool { return true }},
		{"reply's State", func(r *api.Reg) any { return &r.Done[0].Reply.State }, func(n int) bool { return n >= 0 && n <= 31 }},
		{"reply's Var", func(r *api.Reg) any { return &r.Done[0].Reply.Vars[1] }, func(n int) bool { return true }},
		{"first N", func(r *api.Reg) any { return &r.Out[0].N }, func(n int) bool { return n >= 1 && n <= 4 }},
		{"second N", func(r *api.Reg) any { return &r.Out[1].N }, func(n int) bool { return n >= 4 && n <= 7 }},
		{"Target", func(r *api.Reg) any { return &r.Out[1].Target }, func(n int) bool { return n < 16 }},
		{"Action", func(r *api.Reg) any { return &r.Out[0].Action }, func(n int) bool { return n >= 0 && n <= 31 }},
		{"Arg", func(r *api.Reg) any { return &r.Out[0].Arg }, func(n int) bool { return true }},
		{"Last", func(r *api.Reg) any { return &r.Last }, func(n int) bool { return n >= 5 || n < 0 }},
		{"first Source", func(r *api.Reg) any { return &r.Marks[0].Source }, func(n int) bool { return n <= 10 }},
		{"second Source", func(r *api.Reg) any { return &r.Marks[1].Source }, func(n int) bool { return n >= 2 && n <= 15 }},
		{"mark's Inc", func(r *api.Reg) any { return &r.Marks[1].Inc }, func(n int) bool { return n != 0 }},
		{"Cell", func(r *api.Reg) any { return &r.Marks[0].Cell }, func(n int) bool { return n != 0 }},
	} {
		for _, n := range append(numbers, 3, 4, 5, 6, 10, 11, 12) {
			r := plain()
			leaf := reflect.ValueOf(x.place(&r)).Elem()
			if leaf.Kind() == reflect.Uint8 && (n < 0 || n > 255) {
				continue
			}
			// Numbers below 0 stand for the highest ones, where there is no sign.
			set(leaf, uint64(n))
			if got := reg.May(r); got != x.may(n) {
				t.Errorf("P6.1: May of a register with %d as its %s: %v", n, x.name, got)
			}
		}
	}
}

func TestMayOfHowMany(t *testing.T) {
	for _, n := range []int{0, 1, 2, 7, 8, 9, 15, 16, 17, 255, 256, 257, 1000} {
		var vars, reply, done, out, marks api.Reg
		for i := range n {
			vars.Vars = append(vars.Vars, int64(i))
			// Their numbers wrap round, where there are more than there may be.
			done.Done = append(done.Done, api.Done{Client: uint8(i + 1), Seq: 1})
			out.Out = append(out.Out, api.Cell{N: uint64(i + 1)})
			marks.Marks = append(marks.Marks, api.Mark{Source: uint8(i), Inc: 1, Cell: 1})
		}
		out.Last = uint64(n)
		reply.Done = []api.Done{{Client: 1, Seq: 1, Reply: api.Reply{Vars: vars.Vars}}}
		for name, x := range map[string]struct {
			r    api.Reg
			most int
		}{
			"Vars": {vars, 8}, "a reply's Vars": {reply, 8}, "Done": {done, 8}, "cells": {out, 8}, "Marks": {marks, 16},
		} {
			x.r.Kind, x.r.Inc = api.Live, 1
			if got := reg.May(x.r); got != (n <= x.most) {
				t.Errorf("P6.1: May of %d %s: %v", n, name, got)
			}
		}
	}
}

func TestMayOfWhatRises(t *testing.T) {
	for _, x := range []struct {
		l                   []uint64
		clients, cells, src bool
	}{
		{nil, true, true, true},
		{[]uint64{0}, false, false, true},
		{[]uint64{1}, true, true, true},
		{[]uint64{8}, true, true, true},
		{[]uint64{9}, false, true, true},
		{[]uint64{15}, false, true, true},
		{[]uint64{16}, false, true, false},
		{[]uint64{255}, false, false, false},
		{[]uint64{0, 1}, false, false, true},
		{[]uint64{0, 0}, false, false, false},
		{[]uint64{1, 1}, false, false, false},
		{[]uint64{1, 0}, false, false, false},
		{[]uint64{2, 1}, false, false, false},
		{[]uint64{1, 2, 3}, true, true, true},
		{[]uint64{1, 4, 8}, true, true, true},
		{[]uint64{1, 3, 2}, false, false, false},
		{[]uint64{1, 3, 3}, false, false, false},
		{[]uint64{2, 3, 1}, false, false, false},
		{[]uint64{3, 3, 4}, false, false, false},
		{[]uint64{2, 1, 3}, false, false, false},
		{[]uint64{7, 8, 9}, false, true, true},
		{[]uint64{14, 15, 16}, false, true, false},
		{[]uint64{16, 0}, false, false, false},
		{[]uint64{9, 1}, false, false, false},
		{[]uint64{99, 100}, false, true, false},
		{[]uint64{100, 101}, false, false, false},
		{[]uint64{1, 2, 3, 4, 5, 6, 7, 8}, true, true, true},
		{[]uint64{0, 1, 2, 3, 4, 5, 6, 7}, false, false, true},
		{[]uint64{1, 2, 3, 4, 5, 6, 8, 7}, false, false, false},
		{[]uint64{1, 2, 3, 4, 5, 6, 7, 7}, false, false, false},
	} {
		done := api.Reg{Kind: api.Live, Inc: 1, Last: 100}
		out, marks := done, done
		for _, n := range x.l {
			done.Done = append(done.Done, api.Done{Client: uint8(n), Seq: 1})
			out.Out = append(out.Out, api.Cell{N: n})
			marks.Marks = append(marks.Marks, api.Mark{Source: uint8(n), Inc: 1, Cell: 1})
		}
		if got := reg.May(done); got != x.clients {
			t.Errorf("P6.1: May of the Clients %v: %v", x.l, got)
		}
		if got := reg.May(out); got != x.cells {
			t.Errorf("P6.1: May of cells' numbers %v: %v", x.l, got)
		}
		if got := reg.May(marks); got != x.src {
			t.Errorf("P6.1: May of the Sources %v: %v", x.l, got)
		}
	}
}

func TestMayOfTheHighestCells(t *testing.T) {
	const top = uint64(math.MaxUint64)
	for _, x := range []struct {
		last uint64
		l    []uint64
		want bool
	}{
		{top, []uint64{top}, true},
		{top, []uint64{top - 1, top}, true},
		{top, []uint64{1, top}, true},
		{top, []uint64{top, top}, false},
		{top, []uint64{top, 0}, false},
		{top, []uint64{top, 1}, false},
		{top - 1, []uint64{top}, false},
		{1<<63 - 1, []uint64{1 << 63}, false},
		{1 << 63, []uint64{1<<63 - 1, 1 << 63}, true},
		{0, []uint64{0}, false},
		{0, []uint64{1}, false},
		{1, []uint64{1}, true},
		{0, nil, true},
	} {
		r := api.Reg{Kind: api.Live, Inc: 1, Last: x.last}
		for _, n := range x.l {
			r.Out = append(r.Out, api.Cell{N: n})
		}
		if got := reg.May(r); got != x.want {
			t.Errorf("P6.1: May of cells' numbers %v up to %d: %v", x.l, x.last, got)
		}
	}
}
