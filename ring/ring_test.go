package ring_test

import (
	"math"
	"math/rand"
	"slices"
	"testing"

	"scrutineer/api"
	"scrutineer/hash"
	"scrutineer/ring"
)

// row are the nodes from one on, before another one.
func row(from, before int) []uint8 {
	var l []uint8
	for n := from; n < before; n++ {
		l = append(l, uint8(n))
	}
	return l
}

// someNodes are nodes of all numbers below a limit, in no order, some of them twice.
func someNodes(rnd *rand.Rand, many, below int) []uint8 {
	var l []uint8
	for range many {
		l = append(l, uint8(rnd.Intn(below)))
	}
	return l
}

// has tells which nodes a list has.
func has(nodes []uint8) map[uint8]bool {
	m := map[uint8]bool{}
	for _, n := range nodes {
		m[n] = true
	}
	return m
}

func TestMayTable(t *testing.T) {
	for _, c := range []struct {
		nodes []uint8
		want  bool
	}{
		{nil, true},
		{[]uint8{}, true},
		{[]uint8{0}, true},
		{[]uint8{63}, true},
		{[]uint8{64}, false},
		{[]uint8{255}, false},
		{[]uint8{0, 1}, true},
		{[]uint8{0, 63}, true},
		{[]uint8{0, 64}, false},
		{[]uint8{0, 0}, false},
		{[]uint8{63, 63}, false},
		{[]uint8{1, 0}, false},
		{[]uint8{64, 1}, false},
		{[]uint8{0, 1, 1}, false},
		{[]uint8{0, 2, 1}, false},
		{[]uint8{1, 2, 0}, false},
		{[]uint8{3, 17, 40}, true},
		{[]uint8{3, 17, 40, 64}, false},
		{[]uint8{3, 17, 40, 0}, false},
		{row(0, 64), true},
		{row(0, 65), false},
		{row(0, 256), false},
		{row(64, 256), false},
		{append(row(0, 64), 0), false},
	} {
		if got := ring.May(c.nodes); got != c.want {
			t.Errorf("P9.1: May of %v: %v", c.nodes, got)
		}
	}
}

func TestMayOfAllPairs(t *testing.T) {
	for a := range 256 {
		for b := range 256 {
			if got, want := ring.May([]uint8{uint8(a), uint8(b)}), a < b && b < 64; got != want {
				t.Errorf("P9.1: May of %d, %d: %v", a, b, got)
			}
		}
	}
}

func TestMayOfRows(t *testing.T) {
	rnd := rand.New(rand.NewSource(1))
	for range 2000 {
		var l []uint8
		for n := range 64 {
			if rnd.Intn(4) > 0 {
				l = append(l, uint8(n))
			}
		}
		if !ring.May(l) {
			t.Fatalf("P9.1: May of %v: false", l)
		}
		if len(l) < 2 {
			continue
		}
		at := 1 + rnd.Intn(len(l)-1)
		for _, n := range []uint8{l[at-1], 0, uint8(rnd.Intn(int(l[at-1]) + 1)), uint8(64 + rnd.Intn(192))} {
			bad := slices.Clone(l)
			bad[at] = n
			if ring.May(bad) {
				t.Fatalf("P9.1: May of %v: true", bad)
			}
		}
	}
}

func TestBuildTable(t *testing.T) {
	if got := ring.Build(nil); len(got) != 0 {
		t.Errorf("P9.1: Build of no nodes: %v", got)
	}
	want := []api.Point{
		{Hash: 0x0c9f461136a8864e}, {Hash: 0x13be4834520880e3}, {Hash: 0x30624fd464ae59af}, {Hash: 0x368fe0c3b0880166},
		{Hash: 0x3f6d34052e183417}, {Hash: 0x69551204ff121d86}, {Hash: 0xb51366cb631c17c1}, {Hash: 0xd0af5e725782b8dc},
	}
	if got := ring.Build([]uint8{0}); !slices.Equal(got, want) {
		t.Errorf("P9.1: Build of the node 0: %x", got)
	}
	var met []uint8
	for _, p := range ring.Build([]uint8{0, 1, 2}) {
		met = append(met, p.Node)
	}
	if want := []uint8{2, 1, 0, 0, 2, 1, 2, 1, 0, 0, 0, 2, 1, 0, 1, 1, 2, 2, 0, 1, 1, 2, 0, 2}; !slices.Equal(met, want) {
		t.Errorf("P9.1: Build of three nodes: %v", met)
	}
}

// holdBuild holds a ring against the chapter's words: eight points of each node, which rise.
func holdBuild(t *testing.T, nodes []uint8) {
	t.Helper()
	got := ring.Build(nodes)
	want := map[api.Point]bool{}
	for n := range has(nodes) {
		for virtual := range 8 {
			want[api.Point{Hash: hash.Place(n, uint8(virtual)), Node: n}] = true
		}
	}
	for i, p := range got {
		if !want[p] {
			t.Fatalf("P9.1: Build of %v: the point %x", nodes, p)
		}
		if i == 0 {
			continue
		}
		if q := got[i-1]; q.Hash > p.Hash || q.Hash == p.Hash && q.Node >= p.Node {
			t.Fatalf("P9.1: Build of %v: %x ahead of %x", nodes, q, p)
		}
	}
	if len(got) != len(want) {
		t.Fatalf("P9.1: Build of %v: %d points, not %d", nodes, len(got), len(want))
	}
}

func TestBuildIsAsTheChapterSays(t *testing.T) {
	holdBuild(t, nil)
	for n := range 256 {
		holdBuild(t, []uint8{uint8(n)})
		holdBuild(t, []uint8{uint8(n), uint8(n)})
		holdBuild(t, row(0, n+1))
		holdBuild(t, row(n, 256))
	}
	rnd := rand.New(rand.NewSource(2))
	for many := range 300 {
		holdBuild(t, someNodes(rnd, many, 64))
		holdBuild(t, someNodes(rnd, many, 256))
	}
}

func TestEachNodeCountsOnce(t *testing.T) {
	rnd := rand.New(rand.NewSource(3))
	for range 60 {
		l := someNodes(rnd, rnd.Intn(40), 64)
		once := slices.Clone(l)
		slices.Sort(once)
		once = slices.Compact(once)
		if a, b := ring.Build(l), ring.Build(once); !slices.Equal(a, b) {
			t.Fatalf("P9.1: Build of %v: %x, but of %v: %x", l, a, once, b)
		}
		for key := range 256 {
			if a, b := ring.Of(l, uint8(key)), ring.Of(once, uint8(key)); !slices.Equal(a, b) {
				t.Fatalf("P9.1: Of %v, %d: %v, but of %v: %v", l, key, a, once, b)
			}
		}
	}
}

func TestKeepersTable(t *testing.T) {
	six, all, high := ring.Build(row(0, 6)), ring.Build(row(0, 64)), ring.Build([]uint8{0, 63, 64, 255})
	for _, c := range []struct {
		ring []api.Point
		key  uint8
		many int
		want []uint8
	}{
		{six, 0, 6, []uint8{3, 1, 4, 0, 5, 2}},
		{six, 1, 6, []uint8{2, 5, 1, 0, 3, 4}},
		{six, 2, 6, []uint8{2, 3, 1, 4, 0, 5}},
		{six, 3, 6, []uint8{5, 0, 3, 1, 4, 2}},
		{six, 5, 6, []uint8{1, 4, 2, 5, 0, 3}},
		{six, 15, 6, []uint8{5, 1, 2, 0, 3, 4}},
		{six, 15, 3, []uint8{5, 1, 2}},
		{six, 15, 1, []uint8{5}},
		{six, 15, 0, nil},
		{six, 15, -1, nil},
		{six, 15, math.MinInt, nil},
		{six, 15, 7, []uint8{5, 1, 2, 0, 3, 4}},
		{six, 15, math.MaxInt, []uint8{5, 1, 2, 0, 3, 4}},
		{all, 0, 5, []uint8{34, 21, 24, 8, 55}},
		{all, 14, 5, []uint8{46, 54, 30, 59, 28}},
		{all, 16, 5, []uint8{23, 46, 43, 38, 0}},
		{all, 128, 5, []uint8{21, 42, 55, 51, 22}},
		{all, 255, 5, []uint8{31, 45, 4, 13, 19}},
		{high, 0, 9, []uint8{64, 255, 0, 63}},
		{high, 15, 9, []uint8{63, 255, 0, 64}},
		{nil, 3, 3, nil},
		{[]api.Point{}, 3, 3, nil},
	} {
		if got := ring.Keepers(c.ring, c.key, c.many); !slices.Equal(got, c.want) {
			t.Errorf("P9.1: Keepers of %d, %d on a ring of %d points: %v, not %v", c.key, c.many, len(c.ring), got, c.want)
		}
	}
}

// place is a point that is written shortly.
type place struct {
	Hash uint64
	Node uint8
}

func TestKeepersAboutTheKeysPlace(t *testing.T) {
	const key = 3
	at := hash.Key(key)
	for _, c := range []struct {
		what string
		ring []place
		want []uint8
	}{
		{"a point at the place comes first", []place{{at - 1, 1}, {at, 2}, {at + 1, 3}}, []uint8{2, 3, 1}},
		{"a point below it comes last", []place{{at - 1, 1}, {at + 1, 3}}, []uint8{3, 1}},
		{"all below: the front comes first", []place{{0, 9}, {at - 2, 7}, {at - 1, 8}}, []uint8{9, 7, 8}},
		{"all behind", []place{{at, 5}, {at + 1, 4}, {math.MaxUint64, 0}}, []uint8{5, 4, 0}},
		{"the ends", []place{{0, 6}, {math.MaxUint64, 7}}, []uint8{7, 6}},
		{"of the same hash", []place{{at - 1, 3}, {at - 1, 4}, {at, 1}, {at, 2}}, []uint8{1, 2, 3, 4}},
		{"each once", []place{{0, 2}, {1, 1}, {2, 2}, {at, 1}, {at + 1, 1}, {at + 2, 3}, {at + 3, 1}}, []uint8{1, 3, 2}},
		{"of any number", []place{{0, 64}, {1, 255}, {at, 254}, {at + 1, 65}}, []uint8{254, 65, 64, 255}},
		{"one alone, below", []place{{at - 1, 255}}, []uint8{255}},
		{"one alone, behind", []place{{at, 0}}, []uint8{0}},
		{"that don't rise", []place{{at + 9, 1}, {at - 9, 2}, {at, 3}, {0, 4}, {at + 1, 5}, {1, 1}}, []uint8{1, 3, 5, 2, 4}},
	} {
		var points []api.Point
		for _, p := range c.ring {
			points = append(points, api.Point(p))
		}
		for many := range len(c.want) + 3 {
			want := c.want[:min(many, len(c.want))]
			if got := ring.Keepers(points, key, many); !slices.Equal(got, want) {
				t.Errorf("P9.1: %s: %d Keepers: %v, not %v", c.what, many, got, want)
			}
		}
	}
}

// modelKeepers are all keepers on the ring of nodes: by how far one has to go from the key's place to each one's next
// point, going round.
func modelKeepers(nodes []uint8, key uint8) []uint8 {
	far := map[uint8]uint64{}
	for n := range has(nodes) {
		far[n] = math.MaxUint64
		for virtual := range 8 {
			far[n] = min(far[n], hash.Place(n, uint8(virtual))-hash.Key(key))
		}
	}
	var l []uint8
	for n := range 256 {
		if _, there := far[uint8(n)]; there {
			l = append(l, uint8(n))
		}
	}
	slices.SortStableFunc(l, func(a, b uint8) int {
		if far[a] < far[b] {
			return -1
		}
		return 1
	})
	return l
}

func TestKeepersAreAsTheChapterSays(t *testing.T) {
	rnd := rand.New(rand.NewSource(4))
	lists := [][]uint8{nil, {0}, {63}, {64}, {255}, {7, 7, 7}, row(0, 64), row(0, 256), row(64, 67)}
	for range 50 {
		lists = append(lists, someNodes(rnd, rnd.Intn(12), 64), someNodes(rnd, rnd.Intn(90), 256))
	}
	for _, nodes := range lists {
		points := ring.Build(nodes)
		for key := range 256 {
			all := modelKeepers(nodes, uint8(key))
			for _, many := range []int{-1, 0, 1, 2, 3, 4, rnd.Intn(99), len(all) - 1, len(all), len(all) + 1, math.MaxInt} {
				want := all[:max(0, min(many, len(all)))]
				if got := ring.Keepers(points, uint8(key), many); !slices.Equal(got, want) {
					t.Fatalf("P9.1: Keepers of %d, %d on the ring of %v: %v, not %v", key, many, nodes, got, want)
				}
			}
			want := slices.Clone(all[:min(3, len(all))])
			slices.Sort(want)
			if got := ring.Of(nodes, uint8(key)); !slices.Equal(got, want) {
				t.Fatalf("P9.1: Of %v, %d: %v, not %v", nodes, key, got, want)
			}
		}
	}
}

func TestOfTable(t *testing.T) {
	for _, c := range []struct {
		nodes []uint8
		key   uint8
		want  []uint8
	}{
		{nil, 0, nil},
		{[]uint8{}, 15, nil},
		{[]uint8{9}, 0, []uint8{9}},
		{[]uint8{63, 9}, 0, []uint8{9, 63}},
		{[]uint8{9, 9, 9, 9}, 0, []uint8{9}},
		{[]uint8{2, 1, 0}, 7, []uint8{0, 1, 2}},
		{[]uint8{255, 64, 0}, 7, []uint8{0, 64, 255}},
		{row(0, 6), 0, []uint8{1, 3, 4}},
		{row(0, 6), 1, []uint8{1, 2, 5}},
		{row(0, 6), 4, []uint8{0, 3, 5}},
		{row(0, 6), 7, []uint8{0, 2, 4}},
		{row(0, 6), 15, []uint8{1, 2, 5}},
		{row(0, 64), 0, []uint8{21, 24, 34}},
		{row(0, 64), 8, []uint8{16, 20, 51}},
		{row(0, 64), 15, []uint8{5, 61, 63}},
		{row(0, 64), 16, []uint8{23, 43, 46}},
		{row(0, 64), 127, []uint8{23, 32, 41}},
		{row(0, 64), 255, []uint8{4, 31, 45}},
	} {
		if got := ring.Of(c.nodes, c.key); !slices.Equal(got, c.want) {
			t.Errorf("P9.1: Of %v, %d: %v, not %v", c.nodes, c.key, got, c.want)
		}
	}
}

// lacks counts those of some nodes that others lack.
func lacks(nodes, others []uint8) int {
	lacking := 0
	for _, n := range nodes {
		if !slices.Contains(others, n) {
			lacking++
		}
	}
	return lacking
}

// holdFewMove holds the keepers of all keys, of some nodes and of these with one more, against each other.
func holdFewMove(t *testing.T, nodes []uint8, more uint8) {
	t.Helper()
	with := append(slices.Clone(nodes), more)
	a, b := ring.Build(nodes), ring.Build(with)
	for key := range 256 {
		x, y := ring.Keepers(a, uint8(key), 3), ring.Keepers(b, uint8(key), 3)
		if key < api.MaxKeys {
			x, y = ring.Of(nodes, uint8(key)), ring.Of(with, uint8(key))
		}
		// Only the one that comes is new, and one goes at most.
		if lacks(y, append(slices.Clone(x), more)) > 0 || lacks(y, x) > 1 || lacks(x, y) > 1 {
			t.Fatalf("P9.2: the keepers of %d: of %v: %v, with %d: %v", key, nodes, x, more, y)
		}
		// Whoever takes no place among the first ones stands where it stood.
		all := slices.DeleteFunc(ring.Keepers(b, uint8(key), 256), func(n uint8) bool { return n == more })
		if before := ring.Keepers(a, uint8(key), 256); !slices.Equal(all, before) {
			t.Fatalf("P9.2: the keepers of %d in the order in which they are met: of %v: %v, with %d: %v", key, nodes, before, more, all)
		}
	}
}

func TestFewMove(t *testing.T) {
	for n := range 64 {
		holdFewMove(t, row(0, n), uint8(n))
		holdFewMove(t, row(n+1, 64), uint8(n))
		holdFewMove(t, append(row(0, n), row(n+1, 64)...), uint8(n))
	}
	rnd := rand.New(rand.NewSource(5))
	for range 200 {
		order := rnd.Perm(64)
		var l []uint8
		for _, n := range order[:rnd.Intn(10)] {
			l = append(l, uint8(n))
		}
		holdFewMove(t, l, uint8(order[63]))
	}
}

func TestFewMoveButSome(t *testing.T) {
	// That keepers stay would be no use if a node that comes never became one.
	came := 0
	for key := range uint8(api.MaxKeys) {
		for n := range 63 {
			came += lacks(ring.Of(row(0, n+1), key), ring.Of(row(0, n), key))
		}
	}
	if came < 150 {
		t.Error("P9.2: what is tried doesn't come to enough:", came)
	}
}
