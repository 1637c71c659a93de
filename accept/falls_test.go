package accept_test

import (
	"fmt"
	"math/rand"
	"testing"

	"scrutineer/api"
	"scrutineer/msg"
	"scrutineer/record"
	"scrutineer/reg"
	"scrutineer/sector"
	"scrutineer/store"
)

// holdRefused holds that a deed isn't done, for this error.
func holdRefused(t *testing.T, what string, s *store.Store, x deed, want api.Errno) {
	t.Helper()
	m, e := do(s, x)
	if e != want || !msg.Same(m, api.Msg{}) {
		t.Fatalf("%s: %v: %v, %v, not %v", what, x, m, e, want)
	}
}

// holdAnswered holds that a message is answered so.
func holdAnswered(t *testing.T, what string, s *store.Store, m, want api.Msg) {
	t.Helper()
	a, e := do(s, answer(m))
	if e != api.OK || !msg.Same(a, want) {
		t.Fatalf("%s: %v: %v, %v, not %v", what, m, a, e, want)
	}
}

func TestWithoutRoomItDoesNotAnswer(t *testing.T) {
	// Areas of four sectors: each of these records takes one, one with a register that isn't Absent two.
	d, s := made(t, 10, life(1), promised(0, b5), promised(1, b8), slot(2, b8, b7, api.Reg{}))
	was, knew := stand(d), s.State()
	for _, x := range []deed{
		answer(prepare(1, 3, 0, b8)),
		answer(write(1, 3, 0, b8, api.Reg{}, b0)),
		answer(write(1, 0, 0, b5, plain(), b0)),
		erase(2, b7),
		adopt(1, five(), 0),
		adopt(1, five(), 3),
	} {
		holdRefused(t, "P16.1: without room", s, x, api.ErrFull)
		holdKnows(t, "P16.1: without room", s, knew)
		if stand(d) != was {
			t.Fatalf("P16.1: without room %v changes the disk:\n%s\nnot\n%s", x, stand(d), was)
		}
	}
	// What puts nothing is answered all the same; so is what takes the room of what was there.
	holdAnswered(t, "P16.1: without room", s, prepare(1, 1, 0, b5), refused(prepare(1, 1, 0, b5), 0, 8))
	holdAnswered(t, "P16.1: without room", s, write(1, 2, 0, b7, tomb(), b0), accepted(1, 2, 0, b7))
	holdAnswered(t, "P16.1: without room", s, prepare(1, 2, 0, b8), promise(1, 2, 0, b8, b7, api.Reg{}))
	holdAnswered(t, "P16.1: without room", s, write(1, 0, 0, b5, api.Reg{}, b0), accepted(1, 0, 0, b5))
	holdKnows(t, "P16.1: without room", s, record.Fold(knew, slot(0, b5, b5, api.Reg{})))
	holdKnows(t, "P16.1: without room", opened(t, d), s.State())
}

func TestTheFirstErrorIsTheAnswer(t *testing.T) {
	// The fence takes the room of the lower one; then there is none for the configuration.
	d, s := made(t, 10, fence(2), promised(0, b5), promised(1, b8), promised(2, b8))
	knew := record.Fold(s.State(), fence(7))
	holdRefused(t, "P16.1: a fence, and no room", s, adopt(1, five(), 7), api.ErrFull)
	holdKnows(t, "P16.1: a fence, and no room", s, knew)
	// Of a key that isn't kept first of all: its fence has no room.
	d, s = made(t, 14, agreed(five()), promised(0, b5), promised(1, b8), promised(2, b8), promised(3, b8), promised(4, b8))
	was := stand(d)
	holdRefused(t, "P16.1: no room for a fence", s, adopt(2, six(), 9), api.ErrFull)
	if s.Conf().C != 4 || !s.Slot(3).Has || stand(d) != was {
		t.Fatalf("P16.1: no room for a fence, and %v is known", s.State())
	}
	// With the fence there already the keys go, and then there is room.
	d, s = made(t, 14, agreed(five()), fence(8), promised(1, b8), promised(2, b8), promised(3, b8), promised(4, b8))
	_, e := do(s, adopt(2, six(), 9))
	must(t, "P16.1: room behind a key that is gone", e, api.OK)
	if s.Conf().C != 5 || s.Slot(3).Has || s.Fence() != 9 {
		t.Fatalf("P16.1: room behind a key that is gone, and %v is known", s.State())
	}
	holdKnows(t, "P16.1: opened anew", opened(t, d), s.State())
}

// history is what an acceptor that has something of all of it knows, record by record.
func history() []api.Rec {
	return []api.Rec{agreed(five()), life(2), slot(1, b8, b4, plain()), slot(3, b6, b5, tomb()), promised(9, b8), slot(15, b8, b8, tomb()), fence(3)}
}

// putters are deeds that put something, behind that history: each with how many records it puts.
func putters() map[int][]deed {
	return map[int][]deed{
		1: {
			answer(prepare(2, 1, 4, under(9, 1, 0))),
			answer(prepare(2, 0, 4, b4)),
			answer(write(2, 3, 4, b6, plain(), under(6, 3, 0))),
			answer(write(2, 14, 4, b8, tomb(), b0)),
		},
		2: {erase(3, b5), erase(15, b8)},
		// Of the keys 1, 3, 9 and 15 the node 2 doesn't keep 3 and 9.
		5: {adopt(2, six(), 8)},
		6: {adopt(2, six(), 9)},
	}
}

func TestADiskThatFallsUnderADeed(t *testing.T) {
	for many, l := range putters() {
		for _, x := range l {
			_, s := made(t, 60, history()...)
			knew := s.State()
			want := wants(knew, x)
			if len(want.recs) != many {
				t.Fatalf("%v puts %d records, not %d: %v", x, len(want.recs), many, want.recs)
			}
			for n, e := 0, api.ErrDown; e == api.ErrDown; n++ {
				e = holdFallen(t, x, want, n)
			}
		}
	}
}

// holdFallen holds that, of a deed whose disk falls at the write or sync n, what was put behind each other is known, whatever
// stays, and is what the deed is answered.
func holdFallen(t *testing.T, x deed, want wanted, n int) api.Errno {
	t.Helper()
	var e api.Errno
	for keep, most := 0, 1; keep <= most; keep++ {
		for _, torn := range []bool{false, true} {
			d, s := made(t, 60, history()...)
			knew := s.State()
			d.Fuse(n)
			m, err := do(s, x)
			e = err
			what := fmt.Sprintf("P16.2: %v, fallen at %d, %d stay, torn %v", x, n, keep, torn)
			known := holdAhead(t, what, s, knew, want.recs)
			if done := known == len(want.recs); done != (e == api.OK) || !done && (e != api.ErrDown || !msg.Same(m, api.Msg{})) || done && !msg.Same(m, want.m) {
				t.Fatalf("%s: %v, %v, and %d of %d are known", what, m, e, known, len(want.recs))
			}
			most = d.Waits() + 1
			d.Back(keep, torn)
			if stays := holdAhead(t, what+", opened anew", opened(t, d), knew, want.recs); stays < known || stays > known+1 {
				t.Fatalf("%s: %d of %d were known, %d are", what, known, len(want.recs), stays)
			}
		}
	}
	return e
}

// holdAhead holds that a store knows what is known behind some records, and so many of others behind these: how many.
func holdAhead(t *testing.T, what string, s *store.Store, knew api.State, l []api.Rec) int {
	t.Helper()
	at := -1
	for n := range len(l) + 1 {
		if record.Same(s.State(), knew) {
			at = n
		}
		if n < len(l) {
			knew = record.Fold(knew, l[n])
		}
	}
	if at < 0 {
		t.Fatalf("%s: %v is known", what, s.State())
	}
	return at
}

func TestBehindAnErrorOfTheDisk(t *testing.T) {
	d, s := made(t, 60, history()...)
	knew := s.State()
	d.Fall()
	// What puts nothing is answered while the disk is down, and behind that.
	for range 2 {
		holdAnswered(t, "P16.1: a disk that is down", s, prepare(2, 1, 4, b4), refused(prepare(2, 1, 4, b4), 4, 8))
		holdAnswered(t, "P16.1: a disk that is down", s, prepare(2, 1, 3, b4), refused(prepare(2, 1, 3, b4), 4, 0))
		holdAnswered(t, "P16.1: a disk that is down", s, write(2, 3, 4, b5, tomb(), b0), accepted(2, 3, 4, b5))
		for _, x := range []deed{erase(2, b5), adopt(2, five(), 9)} {
			_, e := do(s, x)
			must(t, fmt.Sprintf("P16.1: a disk that is down: %v", x), e, api.OK)
		}
		for _, l := range putters() {
			for _, x := range l {
				holdRefused(t, "P16.1: a disk that is down", s, x, api.ErrDown)
			}
		}
		holdKnows(t, "P16.1: a disk that is down", s, knew)
		d.Back(0, false)
	}
	holdKnows(t, "P16.1: opened anew", opened(t, d), knew)
}

// witness sees what an acceptor promises, and holds it to that.
type witness struct {
	d *sector.Disk
	s *store.Store
	// What was known ahead of the last deed.
	old api.State
	// The highest count that was promised or accepted of each key ahead of its last erasing.
	lost [api.MaxKeys]uint64
	row  []deed
}

// holdRise holds that of each key what was promised and accepted rose, or that it went behind a fence.
func (w *witness) holdRise(t *testing.T) {
	t.Helper()
	now := w.s.State()
	for key, a := range w.old.Slots {
		b := now.Slots[key]
		isSame := a.Acc != b.Acc || reg.Same(a.Reg, b.Reg)
		switch {
		case a.Has && b.Has && (stands(a.Promise, b.Promise) > 0 || stands(a.Acc, b.Acc) > 0 || !isSame):
			t.Fatalf("P16.2: behind %v, of the key %d: %v, then %v", w.row, key, a, b)
		case a.Has && !b.Has && now.Fence < max(a.Promise.Count, a.Acc.Count):
			t.Fatalf("P16.2: behind %v, of the key %d: %v, and the fence %d", w.row, key, a, now.Fence)
		case !a.Has && b.Has && b.Promise.Count <= w.old.Fence:
			t.Fatalf("P16.2: behind %v, of the key %d: the fence %d, then %v", w.row, key, w.old.Fence, b)
		case a.Has && !b.Has:
			w.lost[key] = max(w.lost[key], a.Promise.Count, a.Acc.Count)
		}
	}
	if now.Fence < w.old.Fence {
		t.Fatalf("P16.2: behind %v the fence is %d, then %d", w.row, w.old.Fence, now.Fence)
	}
	w.old = now
}

// holdSaid holds that what was said of a message goes with what was promised ahead of it.
func (w *witness) holdSaid(t *testing.T, m, a api.Msg) {
	t.Helper()
	had := w.old.Slots[m.Key]
	isAgain := m.Kind == api.MsgAccept && had.Acc == m.B
	switch {
	case a.OK && m.B.Count <= w.lost[m.Key]:
		t.Fatalf("P16.2: behind %v %v is agreed to, the count %d was erased", w.row, m, w.lost[m.Key])
	case a.OK && !isAgain && (stands(m.B, had.Promise) < 0 || stands(m.B, had.Acc) <= 0):
		t.Fatalf("P16.2: behind %v %v is agreed to, known was %v", w.row, m, had)
	}
}

// do lets a deed be done.
func (w *witness) do(t *testing.T, x deed) {
	t.Helper()
	w.row = append(w.row, x)
	if x.name == "Fuse" {
		w.d.Fuse(x.i)
		return
	}
	m, e := do(w.s, x)
	if x.name == "Answer" && e == api.OK {
		w.holdSaid(t, x.m, m)
	}
	// Behind an error of the disk it may know what it didn't tell.
	if e == api.ErrDown {
		w.d.Back(w.d.Waits()/2, len(w.row)%2 == 0)
		w.s = opened(t, w.d)
	}
	w.holdRise(t)
}

func TestPromisesHold(t *testing.T) {
	rnd := rand.New(rand.NewSource(2))
	for range 2500 {
		d, s := made(t, 30+rnd.Intn(40))
		w, node := &witness{d: d, s: s}, uint8(rnd.Intn(6))
		for range 20 + rnd.Intn(150) {
			x := randomDeed(rnd, w.old, node)
			switch x.name {
			case "Answer", "Erase", "Adopt", "Fuse":
				w.do(t, x)
			}
		}
	}
}

func TestBehindAnErasingNothingElderIsAgreedTo(t *testing.T) {
	for _, p := range edges() {
		if p == b0 {
			continue
		}
		first := under(0, 0, 1)
		d, s := made(t, 40, slot(3, p, first, tomb()))
		_, e := do(s, erase(3, first))
		must(t, "P16.2: Erase", e, api.OK)
		for _, s := range []*store.Store{s, opened(t, d)} {
			if s.Slot(3).Has {
				t.Fatalf("P16.2: it has the key behind its erasing: %v", s.Slot(3))
			}
			for _, b := range edges() {
				for _, m := range []api.Msg{prepare(2, 3, 0, b), write(2, 3, 0, b, tomb(), b0)} {
					if b != b0 && b.Count <= p.Count {
						holdAnswered(t, "P16.2: behind an erasing", s, m, refused(m, 0, p.Count))
					}
				}
			}
		}
	}
}
