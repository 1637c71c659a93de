package record_test

import (
	"math"
	"math/rand"
	"reflect"
	"testing"

	"scrutineer/api"
	"scrutineer/record"
)

func TestRecordsThatMayBe(t *testing.T) {
	for _, r := range some() {
		if !record.May(r) {
			t.Errorf("P14.1: May of %v: false", r)
		}
	}
}

func TestRecordsThatMayNotBe(t *testing.T) {
	l := faults()
	for _, r := range l {
		if record.May(r) {
			t.Errorf("P14.1: May of %v: true", r)
		}
		if b, e := record.Put(r); e != api.ErrForm || len(b) > 0 {
			t.Errorf("P14.1: Put of %v: %x, %v", r, b, e)
		}
	}
	if len(l) < 1500 {
		t.Errorf("P14.1: just %d records are tried", len(l))
	}
}

// mayModel tells whether a record may be, if it is told whether its register, and its configuration, may be.
func mayModel(r api.Rec, mayReg, mayConf bool) bool {
	x := reflect.ValueOf(r)
	for i := range x.NumField() {
		zero := reflect.Zero(x.Field(i).Type())
		if !isNamed(r.Kind, x.Type().Field(i).Name) && !alikeValues(x.Field(i), zero) {
			return false
		}
	}
	none := api.Ballot{}
	switch r.Kind {
	case 1:
		fits := r.Promise != none && !behind(r.Acc, r.Promise) && mayReg
		return r.Key <= 15 && fits && (r.Acc != none || r.Reg.Kind == 0)
	case 2:
		return r.Key <= 15
	case 3:
		return r.Fence != 0
	case 4:
		return r.Life != 0
	case 5:
		return mayConf
	}
	return false
}

func TestMayOfSlotsThatArePutTogether(t *testing.T) {
	ballots := []api.Ballot{{}, under(0, 0, 1), under(0, 1, 0), under(1, 0, 0), under(7, 2, 9), under(8, 2, 9), under(6, 2, 9),
		under(7, 3, 0), under(7, 1, 10), under(7, 2, 8), under(7, 2, 10), under(1<<63, 0, 0), highest()}
	registers := append(regs(), noRegs()...)
	count := map[bool]int{}
	for kind := range uint8(7) {
		for _, key := range []uint8{0, 15, 16} {
			for _, promise := range ballots {
				for _, acc := range ballots {
					for i, x := range registers {
						r := api.Rec{Kind: kind, Key: key, Promise: promise, Acc: acc, Reg: x}
						want := mayModel(r, i < len(regs()), false)
						count[want]++
						if got := record.May(r); got != want {
							t.Fatalf("P14.1: May of %v: %v", r, got)
						}
					}
				}
			}
		}
	}
	if count[true] < 500 || count[false] < 10_000 {
		t.Error("P14.1: what is tried doesn't come to enough:", count)
	}
}

func TestMayOfOthersThatArePutTogether(t *testing.T) {
	configurations := append(confs(), noConfs()...)
	count := map[bool]int{}
	for kind := range uint8(7) {
		for _, key := range []uint8{0, 1, 15, 16, 255} {
			for _, fence := range []uint64{0, 1, math.MaxUint64} {
				for _, life := range []uint32{0, 1, math.MaxUint32} {
					for i, c := range configurations {
						r := api.Rec{Kind: kind, Key: key, Fence: fence, Life: life, Conf: c}
						want := mayModel(r, true, i < len(confs()))
						count[want]++
						if got := record.May(r); got != want {
							t.Fatalf("P14.1: May of %v: %v", r, got)
						}
					}
				}
			}
		}
	}
	if count[true] < 10 || count[false] < 1000 {
		t.Error("P14.1: what is tried doesn't come to enough:", count)
	}
}

func TestMayOfAllKindsAndKeys(t *testing.T) {
	for kind := range 256 {
		for key := range 256 {
			for _, x := range []api.Rec{
				{},
				{Promise: under(1, 1, 1)},
				{Promise: under(2, 1, 1), Acc: under(1, 1, 1), Reg: plain()},
				{Fence: 1},
				{Life: 1},
				{Conf: api.Conf{New: of(3)}},
			} {
				x.Kind, x.Key = uint8(kind), uint8(key)
				if got, want := record.May(x), mayModel(x, true, len(x.Conf.New) > 0); got != want {
					t.Fatalf("P14.1: May of %v: %v", x, got)
				}
			}
		}
	}
}

func TestMayOfRandomRecords(t *testing.T) {
	rnd := rand.New(rand.NewSource(1))
	count := map[uint8]int{}
	for range 20_000 {
		r := random(rnd)
		count[r.Kind]++
		if !record.May(r) {
			t.Fatalf("P14.1: May of %v: false", r)
		}
		for _, more := range withMore(r) {
			if rnd.Intn(20) == 0 && record.May(more) {
				t.Fatalf("P14.1: May of %v: true", more)
			}
		}
	}
	for kind := range uint8(5) {
		if count[kind+1] < 1000 {
			t.Error("P14.1: what is tried doesn't come to enough:", count)
		}
	}
}
