package hash_test

import (
	"hash/fnv"
	"math"
	"math/big"
	"math/rand"
	"strings"
	"testing"

	"scrutineer/hash"
)

func TestOfTable(t *testing.T) {
	for _, c := range []struct {
		b    string
		want uint64
	}{
		{"", 14695981039346656037},
		{"a", 0xaf63dc4c8601ec8c},
		{"b", 0xaf63df4c8601f1a5},
		{"\x00", 0xaf63bd4c8601b7df},
		{"\xff", 0xaf64724c8602eb6e},
		{"\x00\x00", 0x08328807b4eb6fed},
		{"foobar", 0x85944171f73967e8},
		{"chongo was here!\n", 0x46810940eff5f915},
	} {
		if got := hash.Of([]byte(c.b)); got != c.want {
			t.Errorf("P8.1: Of %q: %x, not %x", c.b, got, c.want)
		}
	}
}

// libraryOf is the hash of bytes as the library works it out.
func libraryOf(b []byte) uint64 {
	f := fnv.New64a()
	f.Write(b)
	return f.Sum64()
}

func TestOfIsTheLibrarys(t *testing.T) {
	rnd := rand.New(rand.NewSource(1))
	for n := range 600 {
		for _, b := range [][]byte{make([]byte, n), []byte(strings.Repeat("\xff", n)), rowOf(rnd, n)} {
			if got, want := hash.Of(b), libraryOf(b); got != want {
				t.Errorf("P8.1: Of %x: %x, not %x", b, got, want)
			}
		}
	}
	for n := range 1 << 16 {
		b := []byte{byte(n >> 8), byte(n)}
		if got, want := hash.Of(b), libraryOf(b); got != want {
			t.Errorf("P8.1: Of %x: %x, not %x", b, got, want)
		}
	}
}

func TestStirTable(t *testing.T) {
	for _, c := range []struct{ h, want uint64 }{
		{0, 0},
		{1, 0xc2b2ae3b32419aa6},
		{2, 0x85655c7e6483354c},
		{1 << 29, 0xa4fa9d6cc7d4eb4f},
		{1 << 31, 0x93ea75a31f53ad3c},
		{1 << 32, 0xea87998b73e8272e},
		{1 << 33, 0xd50f331ee7d04e5c},
		{1 << 35, 0x543ccc639f413971},
		{1 << 63, 0x13ea75a71f53ad3c},
		{math.MaxUint32, 0x65223d12f13afc3f},
		{math.MaxUint32 << 32, 0x3d4d51c332419aa7},
		{math.MaxUint64, 0xd82b14b7c158a588},
		{14695981039346656037, 0xd863c4cdb75b71d4},
		{0x0123456789abcdef, 0x4e074b8c302ca58a},
	} {
		if got := hash.Stir(c.h); got != c.want {
			t.Errorf("P8.1: Stir of %x: %x, not %x", c.h, got, c.want)
		}
	}
}

// spread is what a hash is multiplied by when it is stirred.
const spread = 14029467366897019727

// modelStir stirs as the chapter says, in numbers without a limit of bits.
func modelStir(h uint64) uint64 {
	round := new(big.Int).Lsh(big.NewInt(1), 64)
	x := new(big.Int).SetUint64(h)
	x.Xor(x, new(big.Int).Div(x, big.NewInt(1<<32)))
	x.Mul(x, new(big.Int).SetUint64(spread))
	x.Mod(x, round)
	x.Xor(x, new(big.Int).Div(x, big.NewInt(1<<29)))
	return x.Uint64()
}

// numbers are those at the edges, those of one and two bits, those about them, and random ones.
func numbers() []uint64 {
	l := []uint64{0, math.MaxUint64, 14695981039346656037, spread}
	for i := range 64 {
		one := uint64(1) << i
		l = append(l, one, one-1, one+1, ^one, -one)
		for j := range i {
			l = append(l, one|1<<j, one-1<<j)
		}
	}
	rnd := rand.New(rand.NewSource(2))
	for range 20_000 {
		l = append(l, rnd.Uint64(), rnd.Uint64()>>rnd.Intn(64), rnd.Uint64()<<rnd.Intn(64))
	}
	return l
}

func TestStirIsAsTheChapterSays(t *testing.T) {
	for _, h := range numbers() {
		if got, want := hash.Stir(h), modelStir(h); got != want {
			t.Errorf("P8.1: Stir of %x: %x, not %x", h, got, want)
		}
	}
}

// unstir takes the stirring back, step by step.
func unstir(h uint64) uint64 {
	h = unmoved(h, 29)
	h *= inverse(spread)
	return unmoved(h, 32)
}

// unmoved takes back that a number and it, moved down, were put together: the highest bits are as they were, and tell
// those below them.
func unmoved(h uint64, by int) uint64 {
	x := h
	for range 64 / by {
		x = h ^ x>>by
	}
	return x
}

// inverse is the number that comes to 1 with an odd one: each turn doubles how many of its bits are right.
func inverse(odd uint64) uint64 {
	x := odd
	for range 6 {
		x *= 2 - odd*x
	}
	return x
}

func TestNoTwoAreStirredToTheSame(t *testing.T) {
	if inverse(spread)*spread != 1 {
		t.Fatal("the test's own inverse isn't one")
	}
	from := map[uint64]uint64{}
	for _, h := range numbers() {
		x := hash.Stir(h)
		if back := unstir(x); back != h {
			t.Errorf("P8.2: %x is stirred to %x, as %x is", h, x, back)
		}
		if other, met := from[x]; met && other != h {
			t.Errorf("P8.2: %x and %x are both stirred to %x", h, other, x)
		}
		from[x] = h
	}
}

// TestEachNumberIsStirredTo asks the other way about: as many numbers as there are come out, so that none does twice.
func TestEachNumberIsStirredTo(t *testing.T) {
	for _, x := range numbers() {
		if got := hash.Stir(unstir(x)); got != x {
			t.Errorf("P8.2: %x isn't what %x is stirred to: %x is", x, unstir(x), got)
		}
	}
}

func TestNeighboursAreStirredApart(t *testing.T) {
	for _, first := range []uint64{0, 1<<32 - 1<<15, 1<<61 - 1<<15, 1<<63 - 1<<15, math.MaxUint64 - 1<<16} {
		from := map[uint64]uint64{}
		for i := range uint64(1 << 16) {
			x := hash.Stir(first + i)
			if other, met := from[x]; met {
				t.Errorf("P8.2: %x and %x are both stirred to %x", first+i, other, x)
			}
			from[x] = first + i
		}
	}
}

func TestKeyTable(t *testing.T) {
	for _, c := range []struct {
		key  uint8
		want uint64
	}{
		{0, 0x4dd44e1bb6f2a999},
		{1, 0x15f14ba0435f0bad},
		{2, 0x493726131f813c1b},
		{15, 0x213cadc14d2d5d8a},
		{16, 0x0b30ce8bd9cf817b},
		{127, 0x57fa9a1fabcb10d0},
		{128, 0x5c91de7a272df511},
		{255, 0x3f84e6332901802e},
	} {
		if got := hash.Key(c.key); got != c.want {
			t.Errorf("P8.1: Key of %d: %x, not %x", c.key, got, c.want)
		}
	}
}

func TestPlaceTable(t *testing.T) {
	for _, c := range []struct {
		node, virtual uint8
		want          uint64
	}{
		{0, 0, 0x30624fd464ae59af},
		{0, 1, 0x3f6d34052e183417},
		{1, 0, 0x9ae55d4f09fc89b9},
		{2, 5, 0xa59fb0bf3ee051a3},
		{5, 2, 0xa7c23f01cab82e2a},
		{63, 7, 0x227d648844a8eb98},
		{64, 8, 0xc172b7ddae0302c5},
		{0, 255, 0x205da1fe266f4c1a},
		{255, 0, 0x2881fd73ef25ad1c},
		{255, 255, 0xeafe3bd69ca373c4},
	} {
		if got := hash.Place(c.node, c.virtual); got != c.want {
			t.Errorf("P8.1: Place of %d, %d: %x, not %x", c.node, c.virtual, got, c.want)
		}
	}
}

func TestAllKeysAndPlaces(t *testing.T) {
	for i := range 256 {
		key := []byte{107, byte(i)}
		if got, want := hash.Key(uint8(i)), modelStir(libraryOf(key)); got != want {
			t.Errorf("P8.1: Key of %d: %x, not %x", i, got, want)
		}
		for j := range 256 {
			place := []byte{110, byte(i), byte(j)}
			if got, want := hash.Place(uint8(i), uint8(j)), modelStir(libraryOf(place)); got != want {
				t.Errorf("P8.1: Place of %d, %d: %x, not %x", i, j, got, want)
			}
		}
	}
}

// TestKeysAreApart holds P8.2 for the hashes that keys have: no two of them are the same.
func TestKeysAreApart(t *testing.T) {
	from := map[uint64]int{}
	for i := range 256 {
		x := hash.Key(uint8(i))
		if other, met := from[x]; met {
			t.Errorf("P8.2: the keys %d and %d are both at %x", other, i, x)
		}
		from[x] = i
	}
}
