package conf_test

import (
	"bytes"
	"math"
	"math/rand"
	"slices"
	"testing"

	"scrutineer/api"
	"scrutineer/conf"
	"scrutineer/pack"
)

// numbers are configurations' numbers at their edges.
var numbers = []uint64{0, 1, 2, 3, 1<<63 - 2, 1<<63 - 1, 1 << 63, 1<<63 + 1, math.MaxUint64 - 1, math.MaxUint64}

// odd is a configuration of which mostly nothing may be.
func odd(rnd *rand.Rand) api.Conf {
	some := func(many int) []uint8 {
		l := make([]uint8, rnd.Intn(many))
		for i := range l {
			l[i] = uint8(rnd.Intn(256) >> rnd.Intn(8))
		}
		if rnd.Intn(2) == 0 {
			slices.Sort(l)
		}
		return l
	}
	return api.Conf{C: numbers[rnd.Intn(len(numbers))], Old: some(1 + rnd.Intn(20)), New: some(1 + rnd.Intn(20))}
}

// answers are all calls' answers about a configuration.
type answers struct {
	may, between, quorum, all, same bool
	keepers                         []uint8
	step                            api.Conf
	stepErr                         api.Errno
	b                               []byte
	got                             api.Conf
	end                             api.Errno
}

// ask calls all that there is.
func ask(ahead []byte, c api.Conf, key uint8, nodes uint64, node uint8) answers {
	x := answers{
		may:     conf.May(c),
		between: conf.Between(c),
		quorum:  conf.Quorum(c, key, nodes),
		all:     conf.All(c, key, nodes),
		same:    conf.Same(c, between(1, of(3), of(3, 9))),
		keepers: conf.Keepers(c, key),
		b:       conf.Put(ahead, c),
	}
	x.step, x.stepErr = conf.Step(c, node)
	r := pack.New(x.b)
	for range ahead {
		r.Num(999)
	}
	x.got = conf.Get(r)
	x.end = r.End()
	return x
}

// alike tells whether two calls were answered the same.
func alike(x, y answers) bool {
	return x.may == y.may && x.between == y.between && x.quorum == y.quorum && x.all == y.all && x.same == y.same &&
		slices.Equal(x.keepers, y.keepers) && same(x.step, y.step) && x.stepErr == y.stepErr &&
		bytes.Equal(x.b, y.b) && same(x.got, y.got) && x.end == y.end
}

// withRoom is a list in new memory, with so much room behind it, full of a number.
func withRoom(l []uint8, room int, behind uint8) []uint8 {
	out := append(make([]uint8, 0, len(l)+room), l...)
	for i := range room {
		out[:len(l)+room][len(l)+i] = behind
	}
	return out
}

// clone is the same configuration in new memory, with room behind its lists.
func clone(c api.Conf, room int) api.Conf {
	c.Old, c.New = withRoom(c.Old, room, 99), withRoom(c.New, room, 99)
	return c
}

// spoil writes into a list, and into the room behind its end.
func spoil(l []uint8) {
	for i := range l[:cap(l)] {
		l[:cap(l)][i] += 77
	}
}

func TestEveryCallEnds(t *testing.T) {
	defer func() {
		if p := recover(); p != nil {
			t.Errorf("P0.1: a call panics: %v", p)
		}
	}()
	rnd := rand.New(rand.NewSource(10))
	for range 3000 {
		ask(nil, odd(rnd), uint8(rnd.Intn(256)), rnd.Uint64(), uint8(rnd.Intn(256)))
	}
	for _, many := range []int{0, 1, 63, 64, 65, 255, 256, 257, 70_000} {
		for _, n := range numbers {
			for _, l := range [][]uint8{row(0, many), make([]uint8, many), bytes.Repeat(of(255), many)} {
				for _, c := range []api.Conf{{C: n, New: l}, {C: n, Old: l}, {C: n, Old: l, New: l}, {C: n, Old: of(1), New: l}, {C: n, Old: l, New: of(255)}} {
					ask(make([]byte, many%300), c, 255, math.MaxUint64, 255)
				}
			}
		}
	}
	for _, n := range []int{1, 2, 3, 4, 64, 65, 66, 67, 1000} {
		for x := range 256 {
			get(bytes.Repeat([]byte{byte(x)}, n))
			get(append([]byte{1, 1, 0}, bytes.Repeat([]byte{byte(x)}, n)...))
		}
	}
	for range 2 {
		if got := conf.Get(nil); !same(got, api.Conf{}) {
			t.Errorf("P0.1: Get of a nil reader: %v", got)
		}
	}
}

func TestGetOfAZeroReaderIsLikeOfNil(t *testing.T) {
	// P0.6 lets it panic, too.
	defer func() { _ = recover() }()
	if got := conf.Get(&pack.Reader{}); !same(got, api.Conf{}) {
		t.Errorf("P0.6: Get of a zero reader: %v", got)
	}
}

func TestErrorsStandAlone(t *testing.T) {
	rnd := rand.New(rand.NewSource(11))
	for range 20_000 {
		c := odd(rnd)
		if rnd.Intn(2) == 0 {
			c = someConf(rnd, 2+rnd.Intn(5))
		}
		if got, e := conf.Step(c, uint8(rnd.Intn(90))); e != api.OK && (got.C != 0 || len(got.Old)+len(got.New) > 0) {
			t.Fatalf("P0.2: Step of %v: %v beside %v", c, got, e)
		}
		b := conf.Put(nil, c)
		b = b[:rnd.Intn(len(b)+1)]
		if got, e := get(b); e != api.OK && e != api.ErrLong && (got.C != 0 || len(got.Old)+len(got.New) > 0) {
			t.Fatalf("P0.2: Get of %x: %v beside %v", b, got, e)
		}
	}
}

func TestCallsLeaveWhatIsHandedIn(t *testing.T) {
	rnd := rand.New(rand.NewSource(12))
	for i := range 2000 {
		c := odd(rnd)
		if i%2 == 0 {
			c = someConf(rnd, 2+rnd.Intn(63))
		}
		handed, keep := clone(c, 5), clone(c, 5)
		ahead := withRoom([]byte("ahead"), 300, 99)
		node := uint8(rnd.Intn(66))
		if len(c.New) > 0 && i%4 < 2 {
			node = c.New[rnd.Intn(len(c.New))]
		}
		ask(ahead, handed, uint8(i), rnd.Uint64(), node)
		conf.Same(handed, handed)
		for _, l := range [][2][]uint8{{handed.Old, keep.Old}, {handed.New, keep.New}, {ahead, withRoom([]byte("ahead"), 300, 99)}} {
			if !bytes.Equal(l[0][:cap(l[0])], l[1][:cap(l[0])]) {
				t.Fatalf("P0.3: a list that was handed in, or the room behind it, is changed: %v, not %v", l[0][:cap(l[0])], l[1])
			}
		}
	}
}

// holdNewMemory holds that what is answered about a configuration is nobody else's.
func holdNewMemory(t *testing.T, c api.Conf, node uint8) {
	t.Helper()
	handed := clone(c, 9)
	ahead := withRoom([]byte{7}, 300, 99)
	call := func() answers { return ask(ahead, handed, 1, 3, node) }
	// What is held against is never an answer, which could share memory, too.
	want := answers{keepers: slices.Clone(conf.Keepers(c, 1)), step: clone(modelStep(c, node), 0), got: c, b: bytesOf([]byte{7}, c)}
	wrong := func(x answers) bool {
		return !slices.Equal(x.keepers, want.keepers) || !same(x.step, want.step) || !same(x.got, want.got) || !bytes.Equal(x.b, want.b)
	}
	first, second := call(), call()
	// Another one's answers go elsewhere, too.
	ask(ahead, between(1, of(60, 61), of(60)), 5, 3, 9)
	if wrong(first) || wrong(second) {
		t.Fatalf("P0.3: a later call changes what a first one answered of %v: %v", c, first)
	}
	for _, l := range [][]uint8{first.keepers, first.step.Old, first.step.New, first.got.Old, first.got.New, first.b} {
		spoil(l)
	}
	if !same(handed, c) || string(ahead) != "\x07" {
		t.Fatalf("P0.3: an answer shares memory with what was handed in: %v", c)
	}
	if wrong(second) {
		t.Fatalf("P0.3: two answers share memory: %v", c)
	}
	if wrong(call()) {
		t.Fatalf("P0.3: an answer is kept: %v", c)
	}
	for _, l := range [][]uint8{handed.Old, handed.New, ahead} {
		spoil(l)
	}
	if wrong(second) {
		t.Fatalf("P0.3: what was handed in is kept in an answer: %v", c)
	}
}

func TestAnswersAreNewMemory(t *testing.T) {
	for _, c := range []api.Conf{stable(0, 3), stable(0, 3, 9), stable(0, 3, 4, 9, 11), stable(6, row(0, 63)...),
		between(1, of(3), of(3, 9)), between(1, of(3, 9), of(9)), between(1, of(3, 9, 11, 12), of(3, 9, 11))} {
		for _, node := range of(0, 9, 63) {
			holdNewMemory(t, c, node)
		}
	}
}

func TestListsOfOneAnswerShareNothing(t *testing.T) {
	for _, node := range of(0, 4, 9, 63) {
		got, _ := conf.Step(clone(stable(0, 4, 9, 11), 9), node)
		keep := clone(got, 0)
		spoil(got.Old)
		if !slices.Equal(got.New, keep.New) {
			t.Errorf("P0.3: two lists of a step with %d share memory", node)
		}
	}
	got, _ := get(bytesOf(nil, between(1, of(4, 9), of(4, 9, 11))))
	spoil(got.Old)
	if !slices.Equal(got.New, of(4, 9, 11)) {
		t.Error("P0.3: two lists of one that was got share memory")
	}
}

func TestWhatIsGotLeavesItsBytes(t *testing.T) {
	c := between(1, of(4, 9), of(4, 9, 11))
	b := bytesOf(nil, c)
	r := pack.New(b)
	got := conf.Get(r)
	clear(b)
	if !same(got, c) {
		t.Errorf("P0.3: what was got changes with its bytes: %v", got)
	}
}

func TestNilIsAsEmpty(t *testing.T) {
	for _, n := range numbers {
		for _, c := range []api.Conf{{}, {New: of(3)}, {New: of(3, 9)}, {Old: of(3)}} {
			c.C = n
			x := clone(c, 0)
			if x.Old == nil || x.New == nil {
				t.Fatal("an empty list is nil")
			}
			for _, node := range of(0, 3, 64) {
				if a, b := ask(nil, c, 1, 8, node), ask([]byte{}, x, 1, 8, node); !alike(a, b) {
					t.Errorf("P0.4: of nil lists %v, of empty ones %v", a, b)
				}
			}
			if !conf.Same(c, x) || !conf.Same(x, c) {
				t.Errorf("P0.4: Same of %v with nil lists and with empty ones", c)
			}
		}
	}
	_, e := get(nil)
	if _, f := get([]byte{}); e != api.ErrShort || f != api.ErrShort {
		t.Errorf("P0.4: Get of nil: %v, of empty bytes: %v", e, f)
	}
}

func TestAnswersHangOnArgumentsAlone(t *testing.T) {
	type question struct {
		c     api.Conf
		key   uint8
		nodes uint64
		node  uint8
	}
	rnd := rand.New(rand.NewSource(13))
	var l []question
	var first []answers
	for i := range 1500 {
		q := question{odd(rnd), uint8(rnd.Intn(16)), rnd.Uint64(), uint8(rnd.Intn(70))}
		if i%3 > 0 {
			q.c = someConf(rnd, 2+rnd.Intn(10))
		}
		l = append(l, q)
		first = append(first, ask([]byte{1}, q.c, q.key, q.nodes, q.node))
	}
	for _, i := range rnd.Perm(len(l)) {
		q := l[i]
		// The same numbers elsewhere, with more room behind them.
		if got := ask(withRoom([]byte{1}, 99, 5), clone(q.c, 9), q.key, q.nodes, q.node); !alike(got, first[i]) {
			t.Fatalf("P0.5: of %v: %v, before %v", q, got, first[i])
		}
	}
}
