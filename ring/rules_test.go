package ring_test

import (
	"fmt"
	"math"
	"math/rand"
	"slices"
	"testing"

	"scrutineer/api"
	"scrutineer/hash"
	"scrutineer/ring"
)

// numbers are of how many keepers one may ask.
var numbers = []int{math.MinInt, math.MinInt32, -1, 0, 1, 2, 3, 4, 64, 255, 256, 257, math.MaxInt32, math.MaxInt}

// somePoints are points at all hashes, those at the keys' places among them, of all nodes, in no order.
func somePoints(rnd *rand.Rand, many int) []api.Point {
	var l []api.Point
	for range many {
		h := rnd.Uint64()
		switch rnd.Intn(4) {
		case 0:
			h = hash.Key(uint8(rnd.Intn(256))) + uint64(rnd.Intn(3)) - 1
		case 1:
			h = uint64(rnd.Intn(3)) - 1
		}
		l = append(l, api.Point{Hash: h, Node: uint8(rnd.Intn(256))})
	}
	return l
}

func TestEveryCallEnds(t *testing.T) {
	defer func() {
		if p := recover(); p != nil {
			t.Errorf("P0.1: a call panics: %v", p)
		}
	}()
	rnd := rand.New(rand.NewSource(6))
	for _, many := range []int{0, 1, 2, 3, 63, 64, 65, 255, 256, 257, 1000, 1 << 16} {
		nodes, points := someNodes(rnd, many, 256), somePoints(rnd, many)
		ring.May(nodes)
		ring.Build(nodes)
		ring.May(make([]uint8, many))
		ring.Build(make([]uint8, many))
		for key := range 256 {
			for _, n := range numbers {
				ring.Keepers(points[:min(many, 1000)], uint8(key), n)
			}
		}
		for key := range 256 {
			ring.Of(nodes[:min(many, 300)], uint8(key))
		}
		ring.Keepers(points, 9, math.MaxInt)
		ring.Of(nodes, 255)
	}
	ring.May(nil)
	ring.Build(nil)
	for _, n := range numbers {
		ring.Keepers(nil, 255, n)
		ring.Keepers(make([]api.Point, 3), 0, n)
	}
	ring.Of(nil, 255)
}

func TestKeepersOfAnyPoints(t *testing.T) {
	// A list that doesn't rise is gone through by the chapter's words all the same: those that aren't below, then the front.
	rnd := rand.New(rand.NewSource(7))
	for range 3000 {
		points := somePoints(rnd, rnd.Intn(30))
		if rnd.Intn(2) == 0 {
			slices.SortFunc(points, func(a, b api.Point) int {
				if a.Hash < b.Hash || a.Hash == b.Hash && a.Node < b.Node {
					return -1
				}
				return 1
			})
		}
		key := uint8(rnd.Intn(256))
		var all []uint8
		for _, behind := range []bool{true, false} {
			for _, p := range points {
				if (p.Hash >= hash.Key(key)) == behind && !slices.Contains(all, p.Node) {
					all = append(all, p.Node)
				}
			}
		}
		for _, many := range append(numbers, rnd.Intn(30)) {
			want := all[:max(0, min(many, len(all)))]
			if got := ring.Keepers(points, key, many); !slices.Equal(got, want) {
				t.Fatalf("P9.1: Keepers of %d, %d on %x: %v, not %v", key, many, points, got, want)
			}
		}
	}
}

// withRoom is a list in new memory, with three parts in the room behind it.
func withRoom[T any](l []T, behind T) []T {
	return append(slices.Clone(l), behind, behind, behind)[: len(l) : len(l)+3]
}

// full is a list with the room behind its end.
func full[T any](l []T) []T { return l[:cap(l)] }

// fill writes into a list, and into the room behind its end.
func fill[T any](l []T, with T) {
	for i := range full(l) {
		full(l)[i] = with
	}
}

func TestCallsLeaveWhatIsHandedIn(t *testing.T) {
	rnd := rand.New(rand.NewSource(8))
	for range 1000 {
		nodes := withRoom(someNodes(rnd, rnd.Intn(20), 70), 71)
		points := withRoom(somePoints(rnd, rnd.Intn(20)), api.Point{Hash: 72, Node: 73})
		keepNodes, keepPoints := slices.Clone(full(nodes)), slices.Clone(full(points))
		unchanged := func() bool {
			return slices.Equal(full(nodes), keepNodes) && slices.Equal(full(points), keepPoints)
		}
		key, many := uint8(rnd.Intn(256)), rnd.Intn(9)
		ring.May(nodes)
		built, keepers, of := ring.Build(nodes), ring.Keepers(points, key, many), ring.Of(nodes, key)
		if !unchanged() {
			t.Fatalf("P0.3: what was handed in, or the room behind it, is changed: %v, %x", full(nodes), full(points))
		}
		// Nor is any of it in the answers.
		fill(built, api.Point{Hash: 74, Node: 75})
		fill(keepers, 76)
		fill(of, 77)
		if !unchanged() {
			t.Fatalf("P0.3: an answer shares memory with what was handed in: %v, %x", full(nodes), full(points))
		}
	}
}

// answers are all calls' answers, as text.
func answers(nodes []uint8, points []api.Point, key uint8, many int) string {
	return fmt.Sprint(ring.May(nodes), ring.Build(nodes), ring.Keepers(points, key, many), ring.Of(nodes, key))
}

func TestAnswersAreNewMemory(t *testing.T) {
	rnd := rand.New(rand.NewSource(9))
	for range 1000 {
		nodes, points := someNodes(rnd, rnd.Intn(20), 70), somePoints(rnd, rnd.Intn(20))
		key, many := uint8(rnd.Intn(256)), rnd.Intn(9)
		want := answers(nodes, points, key, many)
		built, keepers, of := ring.Build(nodes), ring.Keepers(points, key, many), ring.Of(nodes, key)
		kept := fmt.Sprint(built, keepers, of)
		// Other calls, second ones of the same, and who writes into what these answered, change nothing.
		ring.Of([]uint8{1, 2, 3, 4}, 5)
		fill(ring.Build(nodes), api.Point{Hash: 74, Node: 75})
		fill(ring.Keepers(points, key, many), 76)
		fill(ring.Of(nodes, key), 77)
		if fmt.Sprint(built, keepers, of) != kept {
			t.Fatalf("P0.3: two answers share memory: %v, %v, %v", built, keepers, of)
		}
		if answers(nodes, points, key, many) != want {
			t.Fatalf("P0.3: an answer is kept: of %v, %x", nodes, points)
		}
		fill(nodes, 78)
		fill(points, api.Point{Hash: 79, Node: 80})
		if fmt.Sprint(built, keepers, of) != kept {
			t.Fatalf("P0.3: what was handed in is kept in an answer: %v, %v, %v", built, keepers, of)
		}
	}
}

func TestNilIsAsEmpty(t *testing.T) {
	noNodes := [][]uint8{{}, make([]uint8, 0, 9), row(1, 3)[2:]}
	noPoints := [][]api.Point{{}, make([]api.Point, 0, 9), make([]api.Point, 2)[2:]}
	for _, key := range []uint8{0, 1, 15, 16, 255} {
		for _, many := range numbers {
			of := answers(nil, nil, key, many)
			for _, nodes := range noNodes {
				for _, points := range noPoints {
					if got := answers(nodes, points, key, many); got != of {
						t.Errorf("P0.4: with empty lists: %s, with nil ones: %s", got, of)
					}
				}
			}
		}
	}
}

func TestAnswersHangOnArgumentsAlone(t *testing.T) {
	type asked struct {
		nodes  []uint8
		points []api.Point
		key    uint8
		many   int
		first  string
	}
	rnd := rand.New(rand.NewSource(10))
	var l []asked
	for range 2000 {
		a := asked{nodes: someNodes(rnd, rnd.Intn(20), 70), key: uint8(rnd.Intn(256)), many: rnd.Intn(9)}
		a.points = ring.Build(a.nodes)
		a.first = answers(a.nodes, a.points, a.key, a.many)
		l = append(l, a)
	}
	for _, i := range rnd.Perm(len(l)) {
		// The same numbers elsewhere, with room behind them.
		a := l[i]
		if got := answers(withRoom(a.nodes, 71), withRoom(a.points, api.Point{Hash: 72}), a.key, a.many); got != a.first {
			t.Fatalf("P0.5: of %v, %d, %d: %s, before %s", a.nodes, a.key, a.many, got, a.first)
		}
	}
}
