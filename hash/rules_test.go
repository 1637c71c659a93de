package hash_test

import (
	"bytes"
	"math"
	"math/rand"
	"testing"

	"scrutineer/hash"
)

// rowOf is a row of random bytes.
func rowOf(rnd *rand.Rand, n int) []byte {
	b := make([]byte, n)
	rnd.Read(b)
	return b
}

func TestEveryCallEnds(t *testing.T) {
	defer func() {
		if p := recover(); p != nil {
			t.Errorf("P0.1: a call panics: %v", p)
		}
	}()
	rnd := rand.New(rand.NewSource(3))
	for _, n := range []int{0, 1, 2, 7, 8, 9, 255, 256, 257, 1 << 16, 1 << 20} {
		for _, b := range [][]byte{make([]byte, n), bytes.Repeat([]byte{255}, n), rowOf(rnd, n)} {
			hash.Of(b)
			hash.Of(b[n:])
		}
	}
	hash.Of(nil)
	for _, h := range []uint64{0, 1, math.MaxInt64, 1 << 63, math.MaxUint64} {
		hash.Stir(h)
	}
	for i := range 256 {
		hash.Key(uint8(i))
		for j := range 256 {
			hash.Place(uint8(i), uint8(j))
		}
	}
}

func TestOfLeavesWhatIsHandedIn(t *testing.T) {
	room := []byte("bytes and the room behind them")
	keep := bytes.Clone(room)
	for n := range len(room) + 1 {
		b := room[:n]
		first := hash.Of(b)
		if !bytes.Equal(room, keep) {
			t.Fatalf("P0.3: the bytes, and the room behind them, are %q", room)
		}
		if got, want := first, libraryOf(keep[:n]); got != want {
			t.Errorf("P8.1: Of %q with room behind it: %x, not %x", b, got, want)
		}
		if again := hash.Of(b); again != first {
			t.Errorf("P0.5: Of %q: %x, and then %x", b, first, again)
		}
	}
}

func TestNothingOfWhatIsHandedInIsKept(t *testing.T) {
	b := []byte("first")
	first := hash.Of(b)
	copy(b, "other")
	if got, want := hash.Of(b), libraryOf([]byte("other")); got != want {
		t.Errorf("P0.3: Of bytes that were written into: %x, not %x", got, want)
	}
	copy(b, "first")
	if got := hash.Of(b); got != first {
		t.Errorf("P0.5: Of the same bytes: %x, and then %x", first, got)
	}
}

func TestNilIsEmpty(t *testing.T) {
	for _, b := range [][]byte{nil, {}, make([]byte, 0, 9), []byte("bytes")[5:]} {
		if got := hash.Of(b); got != 14695981039346656037 {
			t.Errorf("P0.4: Of no bytes (nil: %v): %x", b == nil, got)
		}
	}
}

func TestCallsHangOnTheirArgumentsAlone(t *testing.T) {
	type answers struct{ of, stir, key, place uint64 }
	ask := func(i int) answers {
		return answers{hash.Of([]byte{byte(i)}), hash.Stir(uint64(i)), hash.Key(uint8(i)), hash.Place(uint8(i), uint8(3*i))}
	}
	var first [256]answers
	for i := range 256 {
		first[i] = ask(i)
	}
	for i := 255; i >= 0; i-- {
		if again := ask(i); again != first[i] {
			t.Errorf("P0.5: the answers of %d: %v, and then %v", i, first[i], again)
		}
	}
}
