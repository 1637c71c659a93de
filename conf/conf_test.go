package conf_test

import (
	"math"
	"math/bits"
	"math/rand"
	"slices"
	"testing"

	"scrutineer/api"
	"scrutineer/conf"
	"scrutineer/ring"
)

// row are the nodes from one on, before another one.
func row(from, before int) []uint8 {
	var l []uint8
	for n := from; n < before; n++ {
		l = append(l, uint8(n))
	}
	return l
}

// of is a list of nodes.
func of(nodes ...uint8) []uint8 {
	return nodes
}

// set has a bit for each of some nodes.
func set(nodes ...uint8) uint64 {
	var s uint64
	for _, n := range nodes {
		s |= uint64(1) << n
	}
	return s
}

// nodesOf are the nodes of a set, rising.
func nodesOf(s uint64) []uint8 {
	var l []uint8
	for n := range 64 {
		if s>>n&1 == 1 {
			l = append(l, uint8(n))
		}
	}
	return l
}

// stable is a stable configuration.
func stable(c uint64, nodes ...uint8) api.Conf {
	return api.Conf{C: c, New: nodes}
}

// between is a configuration between nodes and others.
func between(c uint64, older, newer []uint8) api.Conf {
	return api.Conf{C: c, Old: older, New: newer}
}

// without are nodes but for one.
func without(nodes []uint8, node uint8) []uint8 {
	return slices.DeleteFunc(slices.Clone(nodes), func(n uint8) bool { return n == node })
}

// someConf is a configuration that may be, of nodes below a limit.
func someConf(rnd *rand.Rand, below int) api.Conf {
	order := rnd.Perm(below)
	l := nodes(order[:1+rnd.Intn(below-1)])
	more := slices.Sorted(slices.Values(append(slices.Clone(l), uint8(order[below-1]))))
	slices.Sort(l)
	n := rnd.Uint64() >> rnd.Intn(64)
	switch {
	case n%2 == 0:
		return api.Conf{C: n, New: l}
	case rnd.Intn(2) == 0:
		return api.Conf{C: n, Old: l, New: more}
	}
	return api.Conf{C: n, Old: more, New: l}
}

// nodes are numbers as nodes.
func nodes(numbers []int) []uint8 {
	var l []uint8
	for _, n := range numbers {
		l = append(l, uint8(n))
	}
	return l
}

// someMoves are configurations that may be: of all sizes, of few nodes and of many, stable and between.
func someMoves() []api.Conf {
	var l []api.Conf
	for n := 1; n <= 64; n++ {
		l = append(l, stable(2, row(0, n)...))
		if n < 64 {
			l = append(l, between(1, row(0, n), row(0, n+1)), between(3, row(0, n+1), row(0, n)), between(5, row(1, n+1), row(0, n+1)))
		}
	}
	rnd := rand.New(rand.NewSource(1))
	for below := 2; below <= 64; below++ {
		l = append(l, someConf(rnd, below), someConf(rnd, below))
	}
	return l
}

// noConfs are configurations that may not be.
func noConfs() []api.Conf {
	return []api.Conf{
		{},
		{New: of()},
		{C: 1},
		{C: math.MaxUint64},
		stable(0, 64),
		stable(0, 255),
		stable(0, 0, 64),
		stable(2, 0, 0),
		stable(2, 1, 0),
		stable(2, 0, 2, 1),
		stable(2, row(0, 65)...),
		stable(2, row(0, 256)...),
		between(0, of(0), of(0)),
		between(0, of(0), of(0, 1)),
		between(4, of(1), nil),
		between(1, nil, of(0)),
		between(1, of(0), nil),
		between(1, of(), of(63)),
		between(1, of(0), of(0)),
		between(1, of(0), of(1)),
		between(1, of(0), of(1, 2)),
		between(1, of(1, 2), of(0)),
		between(1, of(0), of(0, 1, 2)),
		between(1, of(0, 1, 2), of(0)),
		between(1, of(0, 1), of(0, 2)),
		between(1, of(0, 1, 2), of(0, 3)),
		between(1, of(0, 1), of(2, 3, 4)),
		between(1, of(0, 64), of(0)),
		between(1, of(0), of(0, 64)),
		between(1, of(0, 128), of(0)),
		between(1, of(0), of(0, 255)),
		between(1, of(0, 64), of(0, 1, 64)),
		between(1, of(0, 1), of(1, 0, 2)),
		between(1, of(1, 0), of(0, 1, 2)),
		between(1, of(0, 1), of(0, 0, 1)),
		between(1, of(0, 0, 1), of(0, 1)),
		between(1, of(0, 0), of(0)),
		between(1, of(0), of(0, 0)),
		between(1, of(0, 1), of(1, 0)),
		between(1, of(0, 1, 2), of(1, 0)),
		between(1, row(0, 64), row(0, 65)),
		between(1, row(0, 65), row(0, 64)),
		between(1, row(0, 64), row(0, 64)),
		between(1, row(0, 256), row(0, 255)),
	}
}

func TestMayTable(t *testing.T) {
	for _, c := range []api.Conf{
		stable(0, 0),
		stable(0, 63),
		stable(2, 0, 63),
		stable(2, 3, 17, 40),
		stable(math.MaxUint64-1, row(0, 64)...),
		stable(1<<63, 5),
		{C: 0, Old: of(), New: of(1)},
		between(1, of(0), of(0, 1)),
		between(1, of(1), of(0, 1)),
		between(1, of(0, 1), of(0)),
		between(1, of(0, 1), of(1)),
		between(3, of(0, 2), of(0, 1, 2)),
		between(3, of(0, 1, 2), of(0, 2)),
		between(3, of(62), of(62, 63)),
		between(3, of(62, 63), of(63)),
		between(5, row(0, 63), row(0, 64)),
		between(5, row(0, 64), row(1, 64)),
		between(math.MaxUint64, of(7), of(7, 9)),
	} {
		if !conf.May(c) {
			t.Errorf("P10.1: May of %v: false", c)
		}
	}
	for _, c := range noConfs() {
		if conf.May(c) {
			t.Errorf("P10.1: May of %v: true", c)
		}
	}
	for _, c := range someMoves() {
		if !conf.May(c) {
			t.Errorf("P10.1: May of %v: false", c)
		}
	}
}

// listMay tells whether a list of nodes may be, one node by one.
func listMay(l []uint8) bool {
	for i := range l {
		if l[i] >= 64 || i > 0 && l[i] <= l[i-1] {
			return false
		}
	}
	return len(l) > 0
}

// hasOneMore tells whether one of a list's nodes can be left out, and another list is left.
func hasOneMore(more, less []uint8) bool {
	for i := range more {
		if slices.Equal(slices.Delete(slices.Clone(more), i, i+1), less) {
			return true
		}
	}
	return false
}

// modelMay is May by the chapter's words.
func modelMay(c api.Conf) bool {
	if c.C%2 == 0 {
		return len(c.Old) == 0 && listMay(c.New)
	}
	return listMay(c.Old) && listMay(c.New) && (hasOneMore(c.New, c.Old) || hasOneMore(c.Old, c.New))
}

// holdMay holds May of all four kinds of numbers with these lists.
func holdMay(t *testing.T, older, newer []uint8) {
	t.Helper()
	for _, n := range []uint64{0, 1, 1 << 63, math.MaxUint64} {
		c := api.Conf{C: n, Old: older, New: newer}
		if got, want := conf.May(c), modelMay(c); got != want {
			t.Fatalf("P10.1: May of %v: %v", c, got)
		}
	}
}

func TestMayOfAllSmallLists(t *testing.T) {
	lists := [][]uint8{nil}
	for _, a := range of(0, 1, 63, 64) {
		lists = append(lists, of(a))
		for _, b := range of(0, 1, 63, 64) {
			lists = append(lists, of(a, b))
			for _, c := range of(0, 1, 63, 64) {
				lists = append(lists, of(a, b, c))
			}
		}
	}
	for _, older := range lists {
		for _, newer := range lists {
			holdMay(t, older, newer)
		}
	}
	for older := range uint64(64) {
		for newer := range uint64(64) {
			holdMay(t, nodesOf(older), nodesOf(newer))
			holdMay(t, nodesOf(older<<58), nodesOf(newer<<58))
		}
	}
}

func TestMayOfConfigurationsWithAFault(t *testing.T) {
	rnd := rand.New(rand.NewSource(2))
	may, mayNot := 0, 0
	for range 20_000 {
		c := someConf(rnd, 2+rnd.Intn(63))
		lists := [][]uint8{c.New, c.Old}
		l := lists[rnd.Intn(len(lists))]
		if len(l) == 0 {
			l = lists[0]
		}
		at := rnd.Intn(len(l))
		switch rnd.Intn(4) {
		case 0:
			l[at] = uint8(rnd.Intn(70))
		case 1:
			l[at], l[rnd.Intn(len(l))] = l[rnd.Intn(len(l))], l[at]
		case 2:
			c.C++
		case 3:
			c.New = slices.Delete(c.New, 0, 1)
		}
		got, want := conf.May(c), modelMay(c)
		if got != want {
			t.Fatalf("P10.1: May of %v: %v", c, got)
		}
		if want {
			may++
		} else {
			mayNot++
		}
	}
	if may < 500 || mayNot < 5000 {
		t.Error("P10.1: what is tried doesn't come to enough:", may, mayNot)
	}
}

func TestBetweenIsOdd(t *testing.T) {
	for _, l := range []api.Conf{{}, {New: of(1)}, {Old: of(1), New: of(2)}, {Old: of(64)}} {
		for _, n := range []uint64{0, 2, 4, 256, 1 << 32, 1 << 63, math.MaxUint64 - 1} {
			even, odd := l, l
			even.C, odd.C = n, n+1
			if conf.Between(even) || !conf.Between(odd) {
				t.Errorf("P10.1: Between of %v: %v, of %v: %v", even, conf.Between(even), odd, conf.Between(odd))
			}
		}
	}
}

func TestKeepersTable(t *testing.T) {
	more, fewer := between(1, row(0, 5), row(0, 6)), between(3, row(0, 6), row(0, 5))
	for _, x := range []struct {
		c    api.Conf
		key  uint8
		want []uint8
	}{
		{stable(0, 3), 0, of(3)},
		{stable(0, 3), 255, of(3)},
		{stable(0, 9, 63), 15, of(9, 63)},
		{stable(4, row(0, 6)...), 0, of(1, 3, 4)},
		{stable(4, row(0, 6)...), 1, of(1, 2, 5)},
		{stable(4, row(0, 6)...), 4, of(0, 3, 5)},
		{stable(4, row(0, 64)...), 0, of(21, 24, 34)},
		{stable(4, row(0, 64)...), 255, of(4, 31, 45)},
		{more, 0, of(1, 3, 4)},
		{more, 1, of(0, 1, 2, 5)},
		{more, 3, of(0, 1, 3, 5)},
		{more, 15, of(0, 1, 2, 5)},
		{fewer, 0, of(1, 3, 4)},
		{fewer, 1, of(0, 1, 2, 5)},
		{fewer, 3, of(0, 1, 3, 5)},
		{between(1, of(3), of(3, 9)), 7, of(3, 9)},
		{between(1, of(3, 9), of(9)), 7, of(3, 9)},
		{between(1, of(1, 2, 3), of(1, 2)), 7, of(1, 2, 3)},
		{api.Conf{}, 0, nil},
		{api.Conf{C: 1}, 0, nil},
		// Of those that may not be, it is by the chapter's words all the same.
		{between(0, of(3), nil), 0, nil},
		{between(0, of(3), of(5)), 0, of(5)},
		{between(1, of(3), nil), 0, of(3)},
		{between(1, nil, of(3)), 0, of(3)},
		{between(1, of(255, 64), of(7)), 0, of(7, 64, 255)},
		{stable(0, 255, 64, 255), 0, of(64, 255)},
		{between(1, of(0, 1, 2), of(5, 4, 3)), 0, row(0, 6)},
	} {
		if got := conf.Keepers(x.c, x.key); !slices.Equal(got, x.want) {
			t.Errorf("P10.1: Keepers of %v, %d: %v, not %v", x.c, x.key, got, x.want)
		}
	}
}

// modelKeepers are the keepers on New's ring, and on Old's.
func modelKeepers(c api.Conf, key uint8) (newer, older []uint8) {
	newer = ring.Of(c.New, key)
	if c.C%2 == 1 {
		older = ring.Of(c.Old, key)
	}
	return newer, older
}

func TestKeepersAreThoseOnTheRings(t *testing.T) {
	rnd := rand.New(rand.NewSource(3))
	l := someMoves()
	for range 100 {
		// Lists of any nodes, too.
		c := api.Conf{C: rnd.Uint64(), Old: nodes(rnd.Perm(256)[:rnd.Intn(9)]), New: nodes(rnd.Perm(256)[:rnd.Intn(9)])}
		l = append(l, c)
	}
	four := 0
	for i, c := range l {
		for k := range 20 {
			key := uint8(k)
			if k >= 16 {
				key = uint8(k * (i + 11))
			}
			newer, older := modelKeepers(c, key)
			want := slices.Compact(slices.Sorted(slices.Values(append(slices.Clone(newer), older...))))
			got := conf.Keepers(c, key)
			if !slices.Equal(got, want) {
				t.Fatalf("P10.1: Keepers of %v, %d: %v, not %v", c, key, got, want)
			}
			if conf.May(c) && len(got) > 4 {
				t.Fatalf("P10.1: Keepers of %v, %d: %v", c, key, got)
			}
			if len(got) == 4 {
				four++
			}
		}
	}
	if four < 100 {
		t.Error("P10.1: what is tried doesn't come to enough:", four)
	}
}

func TestQuorumTable(t *testing.T) {
	more := between(1, row(0, 5), row(0, 6)) // of the key 1: 0, 1, 2 on Old's ring, 1, 2, 5 on New's
	fewer := between(3, row(0, 6), row(0, 5))
	six := stable(4, row(0, 6)...)
	for _, x := range []struct {
		c           api.Conf
		key         uint8
		nodes       uint64
		quorum, all bool
	}{
		{stable(0, 3), 0, set(3), true, true},
		{stable(0, 3), 15, set(3), true, true},
		{stable(0, 3), 0, 0, false, false},
		{stable(0, 3), 0, ^set(3), false, false},
		{stable(0, 3), 0, math.MaxUint64, true, true},
		{stable(0, 0), 0, 1, true, true},
		{stable(0, 63), 0, 1 << 63, true, true},
		{stable(0, 63), 0, 1<<63 - 1, false, false},
		{stable(0, 3, 9), 0, set(3), false, false},
		{stable(0, 3, 9), 0, set(9), false, false},
		{stable(0, 3, 9), 0, set(3, 9), true, true},
		{stable(0, 3, 9, 11), 0, set(3), false, false},
		{stable(0, 3, 9, 11), 0, set(3, 9), true, false},
		{stable(0, 3, 9, 11), 0, set(9, 11), true, false},
		{stable(0, 3, 9, 11), 0, set(3, 11), true, false},
		{stable(0, 3, 9, 11), 0, set(3, 9, 11), true, true},
		{six, 1, set(1, 2, 5), true, true},
		{six, 1, set(1, 5), true, false},
		{six, 1, set(0, 1, 3, 4), false, false},
		{six, 1, set(0, 3, 4), false, false},
		{six, 1, set(0, 2, 3, 4, 5), true, false},
		{six, 1, math.MaxUint64, true, true},
		{more, 1, set(1, 2), true, false},
		{more, 1, set(0, 1), false, false},
		{more, 1, set(1, 5), false, false},
		{more, 1, set(0, 5), false, false},
		{more, 1, set(0, 1, 5), true, false},
		{more, 1, set(0, 2, 5), true, false},
		{more, 1, set(0, 1, 2), true, false},
		{more, 1, set(1, 2, 5), true, false},
		{more, 1, set(0, 1, 2, 5), true, true},
		{more, 1, set(0, 3, 4, 5), false, false},
		{fewer, 1, set(1, 2), true, false},
		{fewer, 1, set(0, 1), false, false},
		{fewer, 1, set(1, 5), false, false},
		{fewer, 1, set(0, 2, 5), true, false},
		{fewer, 1, set(0, 1, 2), true, false},
		{fewer, 1, set(1, 2, 5), true, false},
		{fewer, 1, set(0, 1, 2, 5), true, true},
		{between(1, of(3), of(3, 9)), 0, set(3), false, false},
		{between(1, of(3), of(3, 9)), 0, set(9), false, false},
		{between(1, of(3), of(3, 9)), 0, set(3, 9), true, true},
		{between(1, of(3, 9), of(9)), 0, set(9), false, false},
		{between(1, of(3, 9), of(9)), 0, set(3, 9), true, true},
		{between(1, of(3, 9), of(3, 9, 11)), 0, set(3, 9), true, false},
		{between(1, of(3, 9), of(3, 9, 11)), 0, set(9, 11), false, false},
		{between(1, of(3, 9), of(3, 9, 11)), 0, set(3, 9, 11), true, true},
	} {
		if got := conf.Quorum(x.c, x.key, x.nodes); got != x.quorum {
			t.Errorf("P10.1: Quorum of %v, %d, %v: %v", x.c, x.key, nodesOf(x.nodes), got)
		}
		if got := conf.All(x.c, x.key, x.nodes); got != x.all {
			t.Errorf("P10.1: All of %v, %d, %v: %v", x.c, x.key, nodesOf(x.nodes), got)
		}
	}
}

func TestNoQuorumsOfWhatMayNotBe(t *testing.T) {
	for _, c := range noConfs() {
		for key := range uint8(16) {
			for _, s := range []uint64{0, 1, 2, 3, 7, 1 << 63, math.MaxUint64} {
				if conf.Quorum(c, key, s) || conf.All(c, key, s) {
					t.Errorf("P10.1: of %v, %d, %v: Quorum %v, All %v", c, key, nodesOf(s), conf.Quorum(c, key, s), conf.All(c, key, s))
				}
			}
		}
	}
}

// subsets are all sets of some nodes.
func subsets(nodes []uint8) []uint64 {
	l := []uint64{0}
	for _, n := range nodes {
		for _, s := range slices.Clone(l) {
			l = append(l, s|set(n))
		}
	}
	return l
}

// count counts the keepers that a set has.
func count(keepers []uint8, s uint64) int {
	return len(slices.DeleteFunc(slices.Clone(keepers), func(n uint8) bool { return s>>n&1 == 0 }))
}

func TestQuorumsAreAsTheChapterSays(t *testing.T) {
	rnd := rand.New(rand.NewSource(4))
	for _, c := range someMoves() {
		for range 3 {
			key := uint8(rnd.Intn(16 + rnd.Intn(2)*240))
			newer, older := modelKeepers(c, key)
			both := slices.Compact(slices.Sorted(slices.Values(append(slices.Clone(newer), older...))))
			for _, s := range subsets(both) {
				// Others among the nodes change nothing.
				s |= rnd.Uint64() & rnd.Uint64() &^ set(both...)
				quorum, all := 2*count(newer, s) > len(newer), count(newer, s) == len(newer)
				if c.C%2 == 1 {
					quorum = quorum && 2*count(older, s) > len(older)
					all = all && count(older, s) == len(older)
				}
				if got := conf.Quorum(c, key, s); got != quorum {
					t.Fatalf("P10.1: Quorum of %v, %d, %v: %v", c, key, nodesOf(s), got)
				}
				if got := conf.All(c, key, s); got != all {
					t.Fatalf("P10.1: All of %v, %d, %v: %v", c, key, nodesOf(s), got)
				}
			}
		}
	}
}

// quorums are all quorums that a key has among some nodes.
func quorums(c api.Conf, key uint8, among []uint8) []uint64 {
	return slices.DeleteFunc(subsets(among), func(s uint64) bool { return !conf.Quorum(c, key, s) })
}

// holdMeet holds all quorums of two configurations against each other.
func holdMeet(t *testing.T, a, b api.Conf, key uint8) {
	t.Helper()
	among := append(conf.Keepers(a, key), conf.Keepers(b, key)...)
	among = slices.Compact(slices.Sorted(slices.Values(among)))
	first, second := quorums(a, key, among), quorums(b, key, among)
	if len(first) == 0 || len(second) == 0 {
		t.Fatalf("P10.1: no Quorum of %v, or of %v, %d, among all its keepers", a, b, key)
	}
	for _, p := range first {
		for _, q := range second {
			if p&q == 0 {
				t.Fatalf("P10.2: Quorum of %v, %d: %v, and of %v: %v", a, key, nodesOf(p), b, nodesOf(q))
			}
		}
	}
}

func TestQuorumsMeet(t *testing.T) {
	rnd := rand.New(rand.NewSource(5))
	for i, c := range someMoves() {
		node := uint8(rnd.Intn(64))
		if i%2 == 0 && len(c.New) > 1 {
			node = c.New[rnd.Intn(len(c.New))]
		}
		if len(c.New) == 1 && node == c.New[0] {
			node = (node + 1) % 64
		}
		c.C &= math.MaxInt64
		next, e := conf.Step(c, node)
		if e != api.OK {
			t.Fatalf("P10.1: Step of %v, %d: %v", c, node, e)
		}
		for range 2 {
			key := uint8(rnd.Intn(16))
			holdMeet(t, c, c, key)
			holdMeet(t, c, next, key)
		}
	}
}

func TestQuorumsMeetAlongAWay(t *testing.T) {
	rnd := rand.New(rand.NewSource(6))
	c := stable(0, 5)
	for range 60 {
		node := uint8(rnd.Intn(8))
		next, e := conf.Step(c, node)
		if e == api.ErrArg && len(c.New) == 1 && c.New[0] == node {
			continue
		}
		if e != api.OK || next.C != c.C+1 {
			t.Fatalf("P10.1: Step of %v, %d: %v, %v", c, node, next, e)
		}
		for key := range uint8(16) {
			holdMeet(t, c, next, key)
		}
		c = next
	}
	if c.C < 40 {
		t.Error("P10.2: the way is too short:", c.C)
	}
}

func TestStepTable(t *testing.T) {
	for _, x := range []struct {
		c    api.Conf
		node uint8
		want api.Conf
		err  api.Errno
	}{
		{stable(0, 3), 9, between(1, of(3), of(3, 9)), api.OK},
		{stable(0, 3), 0, between(1, of(3), of(0, 3)), api.OK},
		{stable(0, 3), 63, between(1, of(3), of(3, 63)), api.OK},
		{stable(0, 3, 9), 5, between(1, of(3, 9), of(3, 5, 9)), api.OK},
		{stable(0, 3, 9), 3, between(1, of(3, 9), of(9)), api.OK},
		{stable(0, 3, 9), 9, between(1, of(3, 9), of(3)), api.OK},
		{stable(4, 3, 5, 9), 5, between(5, of(3, 5, 9), of(3, 9)), api.OK},
		{stable(4, row(0, 64)...), 0, between(5, row(0, 64), row(1, 64)), api.OK},
		{stable(4, row(0, 64)...), 63, between(5, row(0, 64), row(0, 63)), api.OK},
		{stable(4, row(0, 63)...), 63, between(5, row(0, 63), row(0, 64)), api.OK},
		{api.Conf{C: 0, Old: of(), New: of(1)}, 2, between(1, of(1), of(1, 2)), api.OK},
		{stable(0, 3), 3, api.Conf{}, api.ErrArg},
		{stable(0, 0), 0, api.Conf{}, api.ErrArg},
		{stable(0, 63), 63, api.Conf{}, api.ErrArg},
		{stable(0, 3), 64, api.Conf{}, api.ErrArg},
		{stable(0, 3), 67, api.Conf{}, api.ErrArg},
		{stable(0, 3), 255, api.Conf{}, api.ErrArg},
		{stable(0, row(0, 64)...), 64, api.Conf{}, api.ErrArg},
		{between(1, of(3), of(3, 9)), 0, stable(2, 3, 9), api.OK},
		{between(1, of(3), of(3, 9)), 3, stable(2, 3, 9), api.OK},
		{between(1, of(3), of(3, 9)), 64, stable(2, 3, 9), api.OK},
		{between(1, of(3), of(3, 9)), 255, stable(2, 3, 9), api.OK},
		{between(7, of(3, 9), of(3)), 3, stable(8, 3), api.OK},
		{between(7, row(0, 64), row(1, 64)), 99, stable(8, row(1, 64)...), api.OK},
		// As far as it goes.
		{stable(1<<63-2, 3), 9, between(1<<63-1, of(3), of(3, 9)), api.OK},
		{between(1<<63-1, of(3), of(3, 9)), 9, stable(1<<63, 3, 9), api.OK},
		{stable(1<<63, 3), 9, api.Conf{}, api.ErrFull},
		{between(1<<63+1, of(3), of(3, 9)), 9, api.Conf{}, api.ErrFull},
		{stable(math.MaxUint64-1, 3), 9, api.Conf{}, api.ErrFull},
		{stable(math.MaxUint64-1, 3, 9), 9, api.Conf{}, api.ErrFull},
		{between(math.MaxUint64, of(3), of(3, 9)), 9, api.Conf{}, api.ErrFull},
		{between(math.MaxUint64, of(3), of(3, 9)), 64, api.Conf{}, api.ErrFull},
		// Of two errors the first one.
		{stable(1<<63, 3), 3, api.Conf{}, api.ErrArg},
		{stable(1<<63, 3), 64, api.Conf{}, api.ErrArg},
		{stable(math.MaxUint64-1, 3), 255, api.Conf{}, api.ErrArg},
		{stable(1<<63, 3, 3), 9, api.Conf{}, api.ErrArg},
		{between(math.MaxUint64, of(3), of(3)), 9, api.Conf{}, api.ErrArg},
	} {
		got, e := conf.Step(x.c, x.node)
		if e != x.err || !same(got, x.want) {
			t.Errorf("P10.1: Step of %v, %d: %v, %v, not %v, %v", x.c, x.node, got, e, x.want, x.err)
		}
	}
}

func TestNoStepOfWhatMayNotBe(t *testing.T) {
	for _, c := range noConfs() {
		for _, n := range []uint64{0, 2, 1 << 62, 1 << 63, math.MaxUint64 - 1} {
			x := c
			x.C = n + c.C%2
			for node := range 256 {
				if got, e := conf.Step(x, uint8(node)); e != api.ErrArg || !same(got, api.Conf{}) {
					t.Fatalf("P10.1: Step of %v, %d: %v, %v", x, node, got, e)
				}
			}
		}
	}
}

// modelStep is the step of a configuration that may be, which isn't full.
func modelStep(c api.Conf, node uint8) api.Conf {
	if c.C%2 == 1 {
		return stable(c.C+1, c.New...)
	}
	l := without(c.New, node)
	if len(l) == len(c.New) {
		l = slices.Sorted(slices.Values(append(l, node)))
	}
	return between(c.C+1, c.New, l)
}

func TestStepsOfAllNodes(t *testing.T) {
	for _, c := range someMoves() {
		for n := range 256 {
			node := uint8(n)
			got, e := conf.Step(c, node)
			want, wantErr := modelStep(c, node), api.OK
			switch {
			case c.C%2 == 0 && (n >= 64 || len(want.New) == 0):
				want, wantErr = api.Conf{}, api.ErrArg
			case c.C >= 1<<63:
				want, wantErr = api.Conf{}, api.ErrFull
			}
			if e != wantErr || !same(got, want) {
				t.Fatalf("P10.1: Step of %v, %d: %v, %v, not %v, %v", c, node, got, e, want, wantErr)
			}
			if e == api.OK && !conf.May(got) {
				t.Fatalf("P10.1: Step of %v, %d: %v, which may not be", c, node, got)
			}
		}
	}
}

// same tells whether two configurations are the same, node by node.
func same(a, b api.Conf) bool {
	if a.C != b.C || len(a.Old) != len(b.Old) || len(a.New) != len(b.New) {
		return false
	}
	for i := range a.Old {
		if a.Old[i] != b.Old[i] {
			return false
		}
	}
	for i := range a.New {
		if a.New[i] != b.New[i] {
			return false
		}
	}
	return true
}

func TestSameTable(t *testing.T) {
	l := append(noConfs(), someMoves()...)
	l = append(l, stable(2, 0, 1), stable(4, 0, 1), stable(1<<32+2, 0, 1), stable(1<<63+2, 0, 1), between(2, of(0, 1), nil),
		between(3, of(0), of(0, 1)), between(3, of(1), of(0, 1)), between(3, of(0, 1), of(0)), between(3, of(0, 1), of(1)),
		between(3, nil, of(0, 1)), between(3, of(0, 1), nil), between(3, of(0, 1), of(0, 1)))
	for i, a := range l {
		for j, b := range l {
			if got, want := conf.Same(a, b), same(a, b); got != want {
				t.Fatalf("P10.1: Same of %v, %v: %v", a, b, got)
			}
			if i == j && !conf.Same(a, b) {
				t.Fatalf("P10.1: Same of %v and itself: false", a)
			}
		}
	}
}

func TestExample(t *testing.T) {
	c := stable(0, 3)
	for key := range 256 {
		if !conf.Quorum(c, uint8(key), 1<<3) || !conf.All(c, uint8(key), 1<<3) {
			t.Errorf("P10.1: of the node 3 alone, the key %d: the node 3 isn't a quorum, or isn't all", key)
		}
		for n := range 64 {
			if n != 3 && (conf.Quorum(c, uint8(key), 1<<n) || conf.All(c, uint8(key), 1<<n)) {
				t.Errorf("P10.1: of the node 3 alone, the key %d: the node %d is a quorum, or all", key, n)
			}
		}
	}
}

func TestQuorumsAreOfKeepersAlone(t *testing.T) {
	// All quorums have more than half of the keepers; the least of them have no others.
	for _, c := range someMoves() {
		keepers := set(conf.Keepers(c, 9)...)
		if conf.Quorum(c, 9, ^keepers) || conf.All(c, 9, ^keepers) {
			t.Errorf("P10.1: Quorum of %v, 9, without any keeper", c)
		}
		if !conf.Quorum(c, 9, keepers) || !conf.All(c, 9, keepers) {
			t.Errorf("P10.1: Quorum of %v, 9, or All, of all keepers: false", c)
		}
		for _, k := range nodesOf(keepers) {
			one := keepers &^ set(k)
			if conf.All(c, 9, one) || conf.All(c, 9, ^set(k)) {
				t.Errorf("P10.1: All of %v, 9, without %d: true", c, k)
			}
			if got := conf.Quorum(c, 9, set(k)); got != (bits.OnesCount64(keepers) == 1) {
				t.Errorf("P10.1: Quorum of %v, 9, of %d alone: %v", c, k, got)
			}
		}
	}
}
