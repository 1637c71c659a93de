package record_test

import (
	"math"
	"math/rand"
	"reflect"
	"testing"

	"scrutineer/api"
	"scrutineer/record"
)

// folded is what is known behind records, one behind the other.
func folded(s api.State, l ...api.Rec) api.State {
	for _, r := range l {
		s = record.Fold(s, r)
	}
	return s
}

// with is what is known, changed in one thing.
func with(s api.State, change func(s *api.State)) api.State {
	change(&s)
	return s
}

func TestFoldTable(t *testing.T) {
	full := fullState()
	slot := api.Rec{Kind: api.RecSlot, Key: 15, Promise: under(2, 1, 0), Acc: under(1, 3, 4), Reg: largest()}
	bare := api.Rec{Kind: api.RecSlot, Promise: under(2, 1, 0)}
	stable := api.Conf{C: 2, New: of(0, 63)}
	for _, from := range []api.State{{}, full} {
		for i, x := range []struct {
			r    api.Rec
			want func(s *api.State)
		}{
			{slot, func(s *api.State) {
				s.Slots[15] = api.Slot{Has: true, Promise: under(2, 1, 0), Acc: under(1, 3, 4), Reg: largest()}
			}},
			// Whatever the slot had goes, a higher ballot too.
			{bare, func(s *api.State) { s.Slots[0] = api.Slot{Has: true, Promise: under(2, 1, 0)} }},
			{api.Rec{Kind: api.RecGone}, func(s *api.State) { s.Slots[0] = api.Slot{} }},
			{api.Rec{Kind: api.RecGone, Key: 15}, func(s *api.State) { s.Slots[15] = api.Slot{} }},
			{api.Rec{Kind: api.RecFence, Fence: math.MaxUint64}, func(s *api.State) { s.Fence = math.MaxUint64 }},
			{api.Rec{Kind: api.RecFence, Fence: 301}, func(s *api.State) { s.Fence = 301 }},
			{api.Rec{Kind: api.RecFence, Fence: 300}, func(s *api.State) { s.Fence = 300 }},
			{api.Rec{Kind: api.RecFence, Fence: 299}, func(s *api.State) { s.Fence = max(s.Fence, 299) }},
			{api.Rec{Kind: api.RecFence, Fence: 1}, func(s *api.State) { s.Fence = max(s.Fence, 1) }},
			// A life is that of the last record, be it lower.
			{api.Rec{Kind: api.RecLife, Life: 10}, func(s *api.State) { s.Life = 10 }},
			{api.Rec{Kind: api.RecLife, Life: 1}, func(s *api.State) { s.Life = 1 }},
			{api.Rec{Kind: api.RecLife, Life: math.MaxUint32}, func(s *api.State) { s.Life = math.MaxUint32 }},
			{api.Rec{Kind: api.RecConf, Conf: stable}, func(s *api.State) { s.Conf = stable }},
			// So is a configuration.
			{api.Rec{Kind: api.RecConf, Conf: api.Conf{New: of(7)}}, func(s *api.State) { s.Conf = api.Conf{New: of(7)} }},
		} {
			want := with(from, x.want)
			if got := record.Fold(from, x.r); !alike(got, want) {
				t.Errorf("P14.1: Fold %d of %v: %v, not %v", i, x.r, got, want)
			}
		}
	}
}

func TestFoldOfWhatMayNotBe(t *testing.T) {
	rnd := rand.New(rand.NewSource(4))
	for i, r := range faults() {
		for _, s := range []api.State{{}, fullState(), randomState(rnd, 2)} {
			if i%10 > 0 && s.Fence != 300 {
				continue
			}
			if got := record.Fold(s, r); !alike(got, s) {
				t.Fatalf("P14.1: Fold of %v, that may not be: %v, not %v", r, got, s)
			}
		}
	}
}

// foldModel does a record to what is known, field by field.
func foldModel(s *api.State, r api.Rec) {
	slot := &s.Slots[r.Key%16]
	switch r.Kind {
	case 1:
		slot.Has = true
		slot.Promise, slot.Acc, slot.Reg = r.Promise, r.Acc, r.Reg
	case 2:
		slot.Has = false
		slot.Promise, slot.Acc, slot.Reg = api.Ballot{}, api.Ballot{}, api.Reg{}
	case 3:
		if s.Fence < r.Fence {
			s.Fence = r.Fence
		}
	case 4:
		s.Life = r.Life
	case 5:
		s.Conf = r.Conf
	}
}

// allModel are the records of what is known.
func allModel(s api.State) []api.Rec {
	var l []api.Rec
	if s.Fence > 0 {
		l = append(l, api.Rec{Kind: 3, Fence: s.Fence})
	}
	if s.Life > 0 {
		l = append(l, api.Rec{Kind: 4, Life: s.Life})
	}
	if len(s.Conf.New) > 0 {
		l = append(l, api.Rec{Kind: 5, Conf: s.Conf})
	}
	for key, x := range s.Slots {
		if x.Has {
			l = append(l, api.Rec{Kind: 1, Key: uint8(key), Promise: x.Promise, Acc: x.Acc, Reg: x.Reg})
		}
	}
	return l
}

// thereAndBack holds that all records of what is known, folded, are that.
func thereAndBack(t *testing.T, s api.State) {
	t.Helper()
	all := record.All(s)
	if want := allModel(s); !alike(all, want) {
		t.Fatalf("P14.1: All of %v: %v, not %v", s, all, want)
	}
	var again api.State
	for _, r := range all {
		b, e := record.Put(r)
		x, f := record.Get(b)
		if e != api.OK || f != api.OK || !alike(x, r) {
			t.Fatalf("P14.2: %v of all of %v is put as %x, %v, and got as %v, %v", r, s, b, e, x, f)
		}
		again = record.Fold(again, x)
	}
	if !alike(again, s) || !record.Same(again, s) || !record.Same(s, again) {
		t.Fatalf("P14.2: all of %v, folded: %v", s, again)
	}
}

func TestRowsOfRecords(t *testing.T) {
	rnd := rand.New(rand.NewSource(5))
	bad := faults()
	for range 200 {
		var got, want api.State
		for range rnd.Intn(60) {
			r := random(rnd)
			if rnd.Intn(3) == 0 {
				r = bad[rnd.Intn(len(bad))]
			} else {
				foldModel(&want, r)
			}
			got = record.Fold(got, r)
			if !alike(got, want) {
				t.Fatalf("P14.1: behind %v: %v, not %v", r, got, want)
			}
			thereAndBack(t, got)
		}
	}
}

func TestAllOfWhatIsKnownIsThat(t *testing.T) {
	rnd := rand.New(rand.NewSource(6))
	thereAndBack(t, api.State{})
	thereAndBack(t, fullState())
	for i := range 3000 {
		thereAndBack(t, randomState(rnd, 1+i%6))
	}
	for key := range 16 {
		var s api.State
		s.Slots[key] = api.Slot{Has: true, Promise: highest(), Acc: under(0, 0, 1), Reg: largest()}
		thereAndBack(t, s)
		s = fullState()
		s.Slots[key] = api.Slot{}
		thereAndBack(t, s)
	}
	for _, c := range confs() {
		thereAndBack(t, api.State{Conf: c})
	}
	for _, r := range slots() {
		var s api.State
		s.Slots[r.Key] = api.Slot{Has: true, Promise: r.Promise, Acc: r.Acc, Reg: r.Reg}
		thereAndBack(t, s)
	}
	thereAndBack(t, api.State{Fence: 1})
	thereAndBack(t, api.State{Fence: math.MaxUint64, Life: 1})
	thereAndBack(t, api.State{Life: math.MaxUint32})
}

func TestAllStandsInOrder(t *testing.T) {
	want := []api.Rec{{Kind: api.RecFence, Fence: 300}, {Kind: api.RecLife, Life: 9}, {Kind: api.RecConf, Conf: fullState().Conf}}
	for key := range uint8(16) {
		want = append(want, api.Rec{Kind: api.RecSlot, Key: key, Promise: under(9, 1, uint32(key)), Acc: under(8, key, 1), Reg: plain()})
	}
	if got := record.All(fullState()); !alike(got, want) {
		t.Errorf("P14.1: All: %v, not %v", got, want)
	}
	if got := record.All(api.State{}); len(got) > 0 {
		t.Errorf("P14.1: All of nothing: %v", got)
	}
}

func TestAllOfWhatNobodyKnows(t *testing.T) {
	for _, c := range noConfs() {
		if got, want := record.All(api.State{Life: 2, Conf: c}), []api.Rec{{Kind: api.RecLife, Life: 2}}; !alike(got, want) {
			t.Errorf("P14.1: All with the configuration %v, that may not be: %v", c, got)
		}
	}
	var s api.State
	for key := range s.Slots {
		s.Slots[key] = api.Slot{Has: key == 9, Promise: under(2, 1, 0), Acc: under(1, 1, 0), Reg: plain()}
	}
	want := []api.Rec{{Kind: api.RecSlot, Key: 9, Promise: under(2, 1, 0), Acc: under(1, 1, 0), Reg: plain()}}
	if got := record.All(s); !alike(got, want) {
		t.Errorf("P14.1: All with slots that just the key 9 has: %v", got)
	}
}

func TestSameLooksAtEachField(t *testing.T) {
	for _, s := range []api.State{{}, fullState(), {Fence: math.MaxUint64, Life: math.MaxUint32, Conf: confs()[2]}} {
		changed := clone(s, 0)
		for i, place := range places(reflect.ValueOf(&changed).Elem(), false) {
			for _, by := range []int{1, -1} {
				turn(place, by)
				if record.Same(s, changed) || record.Same(changed, s) {
					t.Errorf("P14.1: Same of %v and %v, of which the number %d is another one: true", s, changed, i)
				}
				turn(place, -by)
			}
		}
		if !record.Same(s, changed) || !record.Same(changed, s) {
			t.Errorf("P14.1: Same of %v and %v: false", s, changed)
		}
	}
}

func TestSameLooksHowLongListsAre(t *testing.T) {
	for i, longer := range []func(*api.State){
		func(s *api.State) { s.Slots[0].Reg.Vars = append(s.Slots[0].Reg.Vars, 0) },
		func(s *api.State) { s.Slots[15].Reg.Done = append(s.Slots[15].Reg.Done, api.Done{}) },
		func(s *api.State) { s.Slots[7].Reg.Out = append(s.Slots[7].Reg.Out, api.Cell{}) },
		func(s *api.State) { s.Slots[8].Reg.Marks = append(s.Slots[8].Reg.Marks, api.Mark{}) },
		func(s *api.State) {
			vars := &s.Slots[3].Reg.Done[0].Reply.Vars
			*vars = append(*vars, 0)
		},
		func(s *api.State) { s.Conf.Old = append(s.Conf.Old, 0) },
		func(s *api.State) { s.Conf.New = append(s.Conf.New, 0) },
	} {
		s := fullState()
		changed := clone(s, 0)
		longer(&changed)
		if record.Same(s, changed) || record.Same(changed, s) {
			t.Errorf("P14.1: Same of %v and the longer %v, %d: true", s, changed, i)
		}
	}
}

func TestSameOfAllPairs(t *testing.T) {
	rnd := rand.New(rand.NewSource(7))
	l := []api.State{{}, fullState()}
	for i := range 40 {
		l = append(l, randomState(rnd, 1+i%10))
	}
	for range 5 {
		l = append(l, oddState(rnd))
	}
	for i, a := range l {
		for j, b := range l[:i+1] {
			want := alike(a, b)
			if record.Same(a, b) != want || record.Same(b, a) != want {
				t.Fatalf("P14.1: Same of %v and %v isn't %v", a, b, want)
			}
			if i == j && !record.Same(a, clone(b, 3)) {
				t.Fatalf("P14.1: Same of %v and what is like it: false", a)
			}
		}
	}
}

func TestFoldOfWhatNobodyKnows(t *testing.T) {
	rnd := rand.New(rand.NewSource(8))
	for range 300 {
		s, r := oddState(rnd), random(rnd)
		want := clone(s, 0)
		foldModel(&want, r)
		if got := record.Fold(s, r); !alike(got, want) {
			t.Fatalf("P14.1: Fold of %v behind %v: %v, not %v", r, s, got, want)
		}
	}
}
