package store_test

import (
	"fmt"
	"math/rand"
	"testing"

	"scrutineer/api"
	"scrutineer/store"
)

// mayKnow are what may be known of a history with a byte spoilt.
func mayKnow(t *testing.T, size int, h history) []api.State {
	t.Helper()
	l := []api.State{replayed(t, size, h).s.State()}
	if h.isBetween {
		// Of what was under way P15.2 lets it know, or not: with the younger seal spoilt, the elder one counts.
		under := len(h.row) - len(falls(0, api.Rec{}, 0, false))
		l = append(l, replayed(t, size, history{row: h.row[:under]}).s.State())
	}
	return l
}

// holdSpoilt holds what is told by a disk with bits of a byte spoilt: what may be known, or the journal's error.
func holdSpoilt(t *testing.T, b *bench, i, at int, by uint8, may []api.State) {
	t.Helper()
	must(t, "Spoil", b.d.Spoil(i, at, by), api.OK)
	s, e := store.Open(b.d)
	must(t, "Spoil", b.d.Spoil(i, at, by), api.OK)
	isTold := e == api.ErrSum && s == nil
	isRight := e == api.OK && s != nil && isKnown(s.State(), may)
	if !isTold && !isRight {
		t.Fatalf("P15.3: %v of the byte %d of the sector %d spoilt: %v, %v, not one of %v", by, at, i, s.State(), e, may)
	}
}

func TestEachByteSpoilt(t *testing.T) {
	rnd := rand.New(rand.NewSource(4))
	for _, size := range []int{64, 101} {
		for _, h := range histories() {
			b, may := replayed(t, size, h), mayKnow(t, size, h)
			for i := range b.d.Count() {
				for at := range size {
					for _, by := range []uint8{1, 128, 255, uint8(1 + rnd.Intn(255))} {
						holdSpoilt(t, b, i, at, by, may)
					}
				}
			}
			storeOn(t, "P15.3: no byte is spoilt any more", b.d, may[0])
		}
	}
}

func TestEachByteOfRecordsIsHeld(t *testing.T) {
	// What is read isn't what was put, so it is told: in no other way would it be found.
	l := []api.Rec{accepted(3, 9, plain()), fence(300), life(9), between()}
	d := made(t, 64, 22)
	s, _ := store.Open(d)
	putAll(t, s, l...)
	at := 2
	for _, r := range l {
		b := bytesOf(r)[0]
		// The head has six bytes; generation, number and length have one each here.
		for n := range len(b) {
			place := 9 + n
			for bit := range 8 {
				must(t, "Spoil", d.Spoil(at+place/64, place%64, 1<<bit), api.OK)
				notOpened(t, fmt.Sprintf("P15.3: the bit %d of the byte %d of %v", bit, n, r), d, api.ErrSum)
				must(t, "Spoil", d.Spoil(at+place/64, place%64, 1<<bit), api.OK)
			}
		}
		at += (9 + len(b) + 4 + 63) / 64
	}
	storeOn(t, "P15.3: no byte is spoilt any more", d, s.State())
}

func TestASpoiltSealIsWrittenOver(t *testing.T) {
	for _, h := range histories()[1:] {
		for at := range 2 {
			b := replayed(t, 64, h)
			must(t, "Spoil", b.d.Spoil(at, 7, 4), api.OK)
			s, e := store.Open(b.d)
			if e == api.ErrSum {
				// One seal alone was right.
				continue
			}
			if may := mayKnow(t, 64, h); e != api.OK || !isKnown(s.State(), may) {
				t.Fatalf("P15.3: behind %v, the seal in %d spoilt: %v, %v, not one of %v", h.row, at, s.State(), e, may)
			}
			holdGoesOn(t, "P15.3", b.d, s.State())
		}
	}
}

func TestRowsSpoilt(t *testing.T) {
	rnd := rand.New(rand.NewSource(5))
	for range 300 {
		d := made(t, 64+rnd.Intn(449), 6+rnd.Intn(60))
		b := opened(t, d, openStore)
		for range rnd.Intn(60) {
			b.s.Put(random(rnd))
		}
		may := []api.State{b.s.State()}
		for range 60 {
			holdSpoilt(t, b, rnd.Intn(d.Count()), rnd.Intn(d.Size()), uint8(1+rnd.Intn(255)), may)
		}
	}
}
