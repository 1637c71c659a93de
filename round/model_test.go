package round_test

import (
	"cmp"
	"math"
	"math/rand"
	"slices"
	"testing"

	"scrutineer/api"
	"scrutineer/conf"
	"scrutineer/msg"
	"scrutineer/ring"
	"scrutineer/round"
)

// stands tells how a ballot stands to another one.
func stands(a, b api.Ballot) int {
	return cmp.Or(cmp.Compare(a.Count, b.Count), cmp.Compare(a.Node, b.Node), cmp.Compare(a.Life, b.Life))
}

// listsOf are the lists of nodes on whose rings a configuration's keepers are.
func listsOf(c api.Conf) [][]uint8 {
	if c.C%2 == 1 {
		return [][]uint8{c.Old, c.New}
	}
	return [][]uint8{c.New}
}

// expected are the answers that belong to a round in its phase, by the nodes that they are from, but for what they tell.
func expected(x api.Round) map[uint8]api.Msg {
	kinds := map[uint8]uint8{api.Asking: api.MsgPromise, api.Writing: api.MsgAccepted}
	l := map[uint8]api.Msg{}
	if kinds[x.Phase] == 0 {
		return l
	}
	for _, nodes := range listsOf(x.Conf) {
		for _, n := range ring.Of(nodes, x.Key) {
			l[n] = api.Msg{Kind: kinds[x.Phase], From: n, To: x.B.Node, Key: x.Key, B: x.B}
		}
	}
	return l
}

// isExpected tells whether an answer is one of those.
func isExpected(x api.Round, m api.Msg) bool {
	want, is := expected(x)[m.From]
	if !is || !msg.May(m) || m.OK && m.Conf != x.Conf.C {
		return false
	}
	m.OK, m.Conf, m.Acc, m.Reg, m.Max = false, 0, b0, api.Reg{}, 0
	return msg.Same(m, want)
}

// has tells whether those who agreed are a majority on each ring, or all there.
func has(x api.Round, agreed map[uint8]bool) bool {
	for _, nodes := range listsOf(x.Conf) {
		keepers, n := ring.Of(nodes, x.Key), 0
		for _, k := range keepers {
			if agreed[k] {
				n++
			}
		}
		if x.Phase == api.Writing && x.All && n < len(keepers) || n < len(keepers)/2+1 {
			return false
		}
	}
	return true
}

// behind is a round, of whose phase nobody told it yet, behind a whole row of answers.
func behind(x api.Round, row []api.Msg) api.Round {
	agreed := map[uint8]bool{}
	var promises []api.Msg
	for _, m := range row {
		if !isExpected(x, m) {
			continue
		}
		if !m.OK {
			x.Max = m.Max
			return stand(x, agreed, promises, api.Failed)
		}
		agreed[m.From] = true
		promises = append(promises, m)
		if has(x, agreed) {
			return stand(x, agreed, promises, x.Phase+1)
		}
	}
	return stand(x, agreed, promises, x.Phase)
}

// stand is a round in a phase that some agreed to, and told what they accepted.
func stand(x api.Round, agreed map[uint8]bool, promises []api.Msg, phase uint8) api.Round {
	for n := range agreed {
		x.Got |= 1 << n
	}
	if x.Phase == api.Asking && len(promises) > 0 {
		// Of the same ballot the first one.
		m := slices.MaxFunc(promises, func(a, b api.Msg) int { return stands(a.Acc, b.Acc) })
		x.Acc, x.Reg = m.Acc, m.Reg
	}
	x.Phase = phase
	return x
}

// holdRow holds that a round is behind each part of a row of answers as the model says.
func holdRow(t *testing.T, x api.Round, row []api.Msg) {
	t.Helper()
	got := x
	for i, m := range row {
		got = round.Told(got, m)
		if want := behind(x, row[:i+1]); !same(got, want) {
			t.Fatalf("P17.1: %v behind %v: %v, not %v", x, row[:i+1], got, want)
		}
	}
}

// someAnswers are answers to a round, most of which belong to it.
func someAnswers(x api.Round, nodes ...uint8) []api.Msg {
	var l []api.Msg
	for _, n := range nodes {
		l = append(l, yes(x, n, b0, api.Reg{}), no(x, n, uint64(10+n)))
		if x.Phase == api.Asking {
			l = append(l, yes(x, n, b4, plain()))
		}
	}
	other := no(x, nodes[0], 7)
	other.Conf++
	stale := yes(x, nodes[0], b0, api.Reg{})
	stale.Conf++
	more := yes(x, nodes[1], b5, tomb())
	elder := yes(x, nodes[1], b0, api.Reg{})
	elder.B.Count--
	return append(l, other, stale, more, elder)
}

func TestAllShortRows(t *testing.T) {
	for _, x := range []api.Round{
		asking(t, five(), 3, b7, false),
		asking(t, six(), 1, b7, true),
		writing(t, five(), 3, b7, false, plain(), b8),
		writing(t, five(), 3, b7, true, tomb(), b0),
		writing(t, six(), 1, b7, false, api.Reg{}, b0),
	} {
		some := someAnswers(x, 0, 1, 2, 3)
		if x.Key == 1 {
			some = someAnswers(x, 0, 1, 2, 5)
		}
		var extend func(row []api.Msg, left int)
		extend = func(row []api.Msg, left int) {
			if left == 0 {
				holdRow(t, x, row)
				return
			}
			for _, m := range some {
				extend(append(row, m), left-1)
			}
		}
		extend(make([]api.Msg, 0, 3), 3)
	}
}

// agreeingRows are rows in which keepers agree, in each order of some of them.
func agreeingRows(x api.Round, keepers []uint8) [][]api.Msg {
	rows := [][]api.Msg{nil}
	for range 4 {
		var longer [][]api.Msg
		for _, row := range rows {
			for i, n := range keepers {
				longer = append(longer, append(slices.Clone(row), yes(x, n, under(uint64(i%2), n, 0), live(uint64(n)+1))))
			}
		}
		rows = longer
	}
	return rows
}

func TestAllWhoMayAgree(t *testing.T) {
	for _, c := range confs() {
		for _, key := range []uint8{0, 3, 9} {
			for _, all := range []bool{false, true} {
				for _, x := range []api.Round{asking(t, c, key, b7, all), writing(t, c, key, b7, all, plain(), b8)} {
					for _, row := range agreeingRows(x, conf.Keepers(c, key)) {
						holdRow(t, x, row)
					}
				}
			}
		}
	}
}

// pick is one of a list.
func pick[T any](rnd *rand.Rand, l []T) T {
	return l[rnd.Intn(len(l))]
}

// randomAnswer is some answer, mostly one that belongs to a round.
func randomAnswer(rnd *rand.Rand, x api.Round) api.Msg {
	keepers := []uint8{0}
	for n := range expected(x) {
		keepers = append(keepers, n)
	}
	slices.Sort(keepers)
	from := pick(rnd, keepers)
	m := yes(x, from, b0, api.Reg{})
	if rnd.Intn(2) == 0 {
		m = yes(x, from, under(uint64(rnd.Intn(3)), uint8(rnd.Intn(3)), uint32(1+rnd.Intn(2))), pick(rnd, regs()))
	}
	if rnd.Intn(6) == 0 {
		m = no(x, from, rnd.Uint64()>>rnd.Intn(64))
	}
	switch rnd.Intn(24) {
	case 0:
		m.Kind = uint8(rnd.Intn(6))
	case 1:
		m.From = uint8(rnd.Intn(70))
	case 2:
		m.To = uint8(rnd.Intn(70))
	case 3:
		m.Key = uint8(rnd.Intn(18))
	case 4, 5:
		m.Conf = uint64(rnd.Intn(8))
	case 6:
		m.B = pick(rnd, edges())
	case 7:
		m.OK = !m.OK
	case 8:
		m.Max++
	case 9:
		m.Reg = pick(rnd, noRegs())
	case 10:
		m.Next = b8
	case 11:
		m.Acc = pick(rnd, edges())
	}
	return m
}

// randomRound is some round that asks, or writes.
func randomRound(t *testing.T, rnd *rand.Rand) api.Round {
	t.Helper()
	c, key, all := pick(rnd, confs()), uint8(rnd.Intn(api.MaxKeys)), rnd.Intn(2) == 0
	b := under(rnd.Uint64()>>rnd.Intn(64), uint8(rnd.Intn(64)), uint32(1+rnd.Intn(3)))
	if rnd.Intn(2) == 0 {
		return asking(t, c, key, b, all)
	}
	next := under(b.Count+1, b.Node, b.Life)
	if next.Count == 0 || rnd.Intn(2) == 0 {
		next = b0
	}
	return writing(t, c, key, b, all, pick(rnd, regs()), next)
}

func TestRandomRows(t *testing.T) {
	rnd := rand.New(rand.NewSource(1))
	for range 4000 {
		x := randomRound(t, rnd)
		var row []api.Msg
		for range 1 + rnd.Intn(9) {
			row = append(row, randomAnswer(rnd, x))
		}
		holdRow(t, x, row)
	}
}

func TestRoundsThatWereMadeByHand(t *testing.T) {
	// Keepers that may not be are asked, yet no answer is from them, and they make no quorum.
	x := api.Round{Conf: api.Conf{C: 2, New: []uint8{70}}, Key: 3, B: b7, Phase: api.Asking}
	holdAsks(t, x, asked(api.Msg{Kind: api.MsgPrepare, From: 3, Key: 3, Conf: 2, B: b7}, 70))
	holdRound(t, "P17.1: a node that there can't be", toldAll(x, yes(x, 70, b0, api.Reg{})), x)
	// A configuration that may not be has no quorum.
	x.Conf = api.Conf{C: 2, New: []uint8{1, 0}}
	want := x
	want.Got = set(0, 1)
	holdRound(t, "P17.1: a configuration that may not be", toldAll(x, yes(x, 1, b0, api.Reg{}), yes(x, 0, b0, api.Reg{})), want)
	// Those who agreed count, but for those who don't keep the key.
	x = asking(t, five(), 3, b7, false)
	x.Got = math.MaxUint64 &^ set(0, 1, 3)
	want = x
	want.Got |= set(3)
	holdRound(t, "P17.1: those who don't keep the key", toldAll(x, yes(x, 3, b0, api.Reg{})), want)
	// A Next that is none is a message's, whatever the round's ballot; another one isn't, if that is none.
	x = api.Round{Conf: five(), Key: 3, Phase: api.Heard}
	y, e := round.Write(x, tomb(), b0)
	want = x
	want.Phase, want.Reg = api.Writing, tomb()
	holdRound(t, "P17.1: a round without a ballot", must(t, y, e), want)
	y, e = round.Write(x, tomb(), under(1, 0, 0))
	if e != api.ErrArg || !same(y, x) {
		t.Errorf("P17.1: a round without a ballot, and a Next: %v, %v", y, e)
	}
}
