package journal_test

import (
	"bytes"
	"encoding/binary"
	"math"
	"math/rand"
	"testing"

	"scrutineer/api"
)

func TestTheSealThatCounts(t *testing.T) {
	// Records of both generations; a seal tells which count, and how many.
	base := blank(64, 22).records(0, "a", "b", "c").records(1, "x", "y")
	for _, x := range []struct {
		what string
		p    picture
		want []string
	}{
		{"the even one alone", base.seal(2, 0, 2), []string{"a", "b"}},
		{"the odd one alone", base.seal(3, 1, 1), []string{"x"}},
		{"the turn 0", base.seal(0, 0, 3), []string{"a", "b", "c"}},
		{"of no records", base.seal(0, 0, 0), nil},
		{"of no records, in the other area", base.seal(0, 1, 0), nil},
		{"the even one is greater", base.seal(3, 1, 1).seal(4, 0, 3), []string{"a", "b", "c"}},
		{"the odd one is greater", base.seal(5, 1, 2).seal(4, 0, 3), []string{"x", "y"}},
		{"turns that stand apart", base.seal(900, 1, 2).seal(1, 0, 1), []string{"x", "y"}},
		{"of two bytes and of one", base.seal(127, 1, 2).seal(128, 0, 1), []string{"a"}},
		{"the greatest turn", base.seal(math.MaxUint64, 0, 1).seal(math.MaxUint64-1, 1, 1), []string{"a"}},
		{"the greatest even turn", base.seal(math.MaxUint64-1, 1, 1).seal(7, 0, 1), []string{"x"}},
		{"the greater one is torn", base.seal(4, 1, 2).put(1, sealFrame(5, 0, 3)[:9]), []string{"x", "y"}},
		{"the other one is rubbish", base.seal(5, 0, 2).put(0, []byte("rubbish")), []string{"a", "b"}},
		{"the greater one stands in the other one's sector", base.seal(4, 0, 1).put(1, sealFrame(6, 1, 2)), []string{"a"}},
		{"the even one stands in both", base.seal(4, 0, 1).put(1, sealFrame(4, 0, 1)), []string{"a"}},
		{"rubbish behind the marked bytes", base.put(0, append(filled(sealFrame(4, 0, 1), 63)[:63], 9)), []string{"a"}},
	} {
		t.Run(x.what, func(t *testing.T) {
			j := opened(t, "P13.1", x.p.disk(t), x.want...)
			holdRoom(t, j, 10-len(x.want))
		})
	}
}

func TestSealsThatAreNotRight(t *testing.T) {
	base := blank(64, 22).records(0, "a").records(1, "x")
	numbers := func(l ...uint64) []byte { return frameOf(nums(l...)) }
	length := func(n uint16, rest []byte) []byte {
		return append(marked(binary.BigEndian.AppendUint16(nil, n)), rest...)
	}
	other := func(b []byte, at int, by byte) []byte {
		b = bytes.Clone(b)
		b[at] ^= by
		return b
	}
	right := sealFrame(2, 0, 1)
	for what, b := range map[string][]byte{
		"rubbish":                        []byte("rubbish"),
		"ones":                           bytes.Repeat([]byte{255}, 64),
		"a byte behind zeros":            append(make([]byte, 63), 1),
		"of an odd turn":                 sealFrame(1, 0, 1),
		"of two numbers":                 numbers(2, 0),
		"of four numbers":                numbers(2, 0, 1, 0),
		"of no numbers":                  frameOf(nil),
		"a number that goes on":          frameOf([]byte{2, 0, 129}),
		"a number with a 0 too many":     frameOf([]byte{2, 0, 129, 0}),
		"a number of 65 bits":            frameOf([]byte{2, 0, 255, 255, 255, 255, 255, 255, 255, 255, 255, 2}),
		"a length of 0":                  length(0, nil),
		"a length without a mark":        append(make([]byte, 6), right[6:]...),
		"a length of less than a mark":   length(3, right[6:]),
		"a length of one byte less":      length(6, right[6:]),
		"a length of one byte more":      length(8, right[6:]),
		"a length of the whole sector":   length(58, right[6:]),
		"a length of more than that":     length(59, right[6:]),
		"the greatest length":            length(math.MaxUint16, right[6:]),
		"the lower byte ahead":           length(7<<8, right[6:]),
		"a length without the mark's":    append(marked([]byte{0, 3}), right[6:]...),
		"a spoilt length":                other(right, 1, 1),
		"a spoilt mark of the length":    other(right, 5, 128),
		"a spoilt turn":                  other(right, 6, 4),
		"a spoilt generation":            other(right, 7, 1),
		"a spoilt number of records":     other(right, 8, 3),
		"a spoilt mark":                  other(right, 12, 16),
		"a mark of the higher bytes":     append(right[:9:9], right[12], right[11], right[10], right[9]),
		"a record's frame":               recFrame(2, 1, []byte("a")),
		"a seal that isn't at the front": append([]byte{0}, right...),
	} {
		t.Run(what, func(t *testing.T) {
			// Nothing else counts then; beside a right one that does.
			notOpened(t, "P13.1", base.put(0, b).disk(t), api.ErrSum)
			opened(t, "P13.1", base.put(0, b).seal(3, 1, 1).disk(t), "x")
		})
	}
	for what, b := range map[string][]byte{
		"of an even turn": sealFrame(2, 0, 1),
		"rubbish":         []byte("r"),
		"the last byte":   append(make([]byte, 63), 128),
	} {
		t.Run("the odd one: "+what, func(t *testing.T) {
			notOpened(t, "P13.1", base.put(1, b).disk(t), api.ErrSum)
			opened(t, "P13.1", base.put(1, b).seal(4, 0, 1).disk(t), "a")
		})
	}
}

func TestADiskWithoutSealsIsEmptyWhateverElseIsThere(t *testing.T) {
	p := blank(64, 22).records(0, "a").records(1, "b").put(21, []byte("rubbish"))
	j := opened(t, "P13.1", p.disk(t))
	holdRoom(t, j, 10)
}

func TestFramesThatAreNotRight(t *testing.T) {
	length := func(n int, rest []byte) []byte {
		return append(marked(binary.BigEndian.AppendUint16(nil, uint16(n))), rest...)
	}
	other := func(b []byte, at int, by byte) []byte {
		b = bytes.Clone(b)
		b[at] ^= by
		return b
	}
	right := recFrame(4, 2, []byte("second"))
	for what, b := range map[string][]byte{
		"zeros":                          make([]byte, 64),
		"rubbish":                        []byte("rubbish"),
		"of the number ahead":            recFrame(4, 1, []byte("second")),
		"of the number behind":           recFrame(4, 3, []byte("second")),
		"of the number 0":                recFrame(4, 0, []byte("second")),
		"of the elder generation":        recFrame(2, 2, []byte("second")),
		"of the next generation":         recFrame(5, 2, []byte("second")),
		"of the generation 0":            recFrame(0, 2, []byte("second")),
		"of a seal":                      sealFrame(2, 4, 3),
		"of no bytes":                    frameOf(nil),
		"of a generation alone":          frameOf(nums(4)),
		"of two numbers alone":           frameOf(nums(4, 2)),
		"of a row that is short":         frameOf(append(nums(4, 2, 6), "secon"...)),
		"of a row with bytes behind":     frameOf(append(nums(4, 2, 6), "second."...)),
		"of a generation of two bytes":   frameOf(append([]byte{132, 0, 2, 6}, "second"...)),
		"of a number of two bytes":       frameOf(append([]byte{4, 130, 0, 6}, "second"...)),
		"of a row's length of two bytes": frameOf(append([]byte{4, 2, 134, 0}, "second"...)),
		"of a number of 65 bits":         frameOf(append(bytes.Repeat([]byte{255}, 10), "second"...)),
		"a length of 0":                  length(0, nil),
		"a length of less than a mark":   length(3, right[6:]),
		"a length that is less":          length(len(right)-6-1, right[6:]),
		"a length that is more":          length(len(right)-6+1, right[6:]),
		"a length up to the area's end":  length(9*64-6, right[6:]),
		"a length up to the other area":  length(9*64-5, right[6:]),
		"the greatest length":            length(math.MaxUint16, right[6:]),
		"a length without a mark":        append([]byte{0, byte(len(right) - 6), 0, 0, 0, 0}, right[6:]...),
		"a spoilt length":                other(right, 0, 1),
		"a spoilt mark of the length":    other(right, 2, 1),
		"a spoilt generation":            other(right, 6, 1),
		"a spoilt number":                other(right, 7, 1),
		"a spoilt row's length":          other(right, 8, 1),
		"a spoilt record":                other(right, 10, 64),
		"a spoilt mark":                  other(right, len(right)-1, 64),
		"one that isn't at the front":    append([]byte{0}, right...),
	} {
		t.Run(what, func(t *testing.T) {
			p := blank(64, 22).records(4, "first", "second", "third").seal(2, 4, 3)
			opened(t, "P13.1", p.disk(t), "first", "second", "third")
			p = p.put(3, b)
			notOpened(t, "P13.1", p.disk(t), api.ErrSum)
			// The elder seal isn't asked, even if what it tells of is there.
			notOpened(t, "P13.1", p.seal(1, 4, 1).disk(t), api.ErrSum)
			// Behind those of which the seal tells it isn't looked at.
			opened(t, "P13.1", p.seal(3, 4, 1).disk(t), "first")
			notOpened(t, "P13.1", p.seal(3, 4, 2).disk(t), api.ErrSum)
		})
	}
}

func TestWhatStandsBehindAFrameIsNotLookedAt(t *testing.T) {
	for at := len(recFrame(4, 2, []byte("second"))); at < 64; at++ {
		p := blank(64, 22).records(4, "first", "second", "third").seal(2, 4, 3)
		p.b = bytes.Clone(p.b)
		p.b[3*64+at] = 0xa5
		opened(t, "P13.1", p.disk(t), "first", "second", "third")
	}
}

func TestSealsThatTellOfMoreThanThereIs(t *testing.T) {
	p := blank(64, 22).records(0, "a", "b")
	for _, n := range []uint64{3, 4, 10, 11, 1 << 32, math.MaxInt64, 1 << 63, math.MaxUint64} {
		notOpened(t, "P13.1", p.seal(2, 0, n).disk(t), api.ErrSum)
		notOpened(t, "P13.1", p.seal(2, 1, n).disk(t), api.ErrSum)
	}
	full := blank(64, 12).records(0, "a", "b", "c", "d", "e")
	holdRoom(t, opened(t, "P13.1", full.seal(2, 0, 5).disk(t), "a", "b", "c", "d", "e"), 0)
	notOpened(t, "P13.1", full.seal(2, 0, 6).disk(t), api.ErrSum)
	// What goes on in the other area, or behind both, is no record.
	over := full.put(7, recFrame(0, 6, []byte("f")))
	notOpened(t, "P13.1", over.seal(2, 0, 6).disk(t), api.ErrSum)
	// The second area of an even number of sectors ends with the disk.
	last := blank(64, 12).records(1, "a", "b", "c", "d", "e")
	holdRoom(t, opened(t, "P13.1", last.seal(2, 1, 5).disk(t), "a", "b", "c", "d", "e"), 0)
	for _, n := range []uint64{6, 7, math.MaxUint64} {
		notOpened(t, "P13.1", last.seal(2, 1, n).disk(t), api.ErrSum)
	}
	second := blank(64, 13).records(1, "a", "b", "c", "d", "e").put(12, recFrame(1, 6, []byte("f")))
	holdRoom(t, opened(t, "P13.1", second.seal(2, 1, 5).disk(t), "a", "b", "c", "d", "e"), 0)
	notOpened(t, "P13.1", second.seal(2, 1, 6).disk(t), api.ErrSum)
}

func TestAFrameOverAnAreasEnd(t *testing.T) {
	for gen := range uint64(2) {
		front := frontOf(gen, 23)
		// Three sectors of which two have room, the third one is the other area's, or behind both.
		f := recFrame(gen, 9, []byte(long(150)))
		p := blank(64, 23).records(gen, "1", "2", "3", "4", "5", "6", "7", "8").put(front+8, f)
		notOpened(t, "P13.1", p.seal(2, gen, 9).disk(t), api.ErrSum)
		opened(t, "P13.1", p.seal(2, gen, 8).disk(t), "1", "2", "3", "4", "5", "6", "7", "8")
		p = p.records(gen, "1", "2", "3", "4", "5", "6", "7", "8", long(100))
		opened(t, "P13.1", p.seal(2, gen, 9).disk(t), "1", "2", "3", "4", "5", "6", "7", "8", long(100))
	}
}

func TestRecordsAtTheLimitAreRead(t *testing.T) {
	for _, size := range []int{64, 300, 512} {
		for n, want := range map[int]api.Errno{2047: api.OK, 2048: api.OK, 2049: api.ErrSum, 4000: api.ErrSum} {
			p := blank(size, 400).records(0, "a", long(n)).seal(2, 0, 2)
			if want == api.OK {
				opened(t, "P13.1", p.disk(t), "a", long(n))
			} else {
				// No journal has such a record.
				notOpened(t, "P13.1", p.disk(t), want)
			}
		}
	}
}

func TestNumbersAtTheirEnds(t *testing.T) {
	const most = math.MaxUint64
	for _, x := range []struct{ turn, gen uint64 }{{most, most}, {most - 1, most}, {most, most - 1}, {most - 1, most - 1}, {1 << 63, 1 << 63}} {
		p := blank(64, 40).records(x.gen, "a", long(200), "c").seal(x.turn, x.gen, 3)
		d := p.disk(t)
		j := opened(t, "P13.1", d, "a", long(200), "c")
		appended(t, j, "d")
		holdPicture(t, d, p.records(x.gen, "a", long(200), "c", "d").seal(x.turn+1, x.gen, 4).seal(x.turn+2, x.gen, 4))
		must(t, "Compact", j.Compact(recs("e", "f")), api.OK)
		b := taken(t, d)
		for n, s := range []string{"e", "f"} {
			at := (frontOf(x.gen+1, 40) + n) * 64
			if !bytes.HasPrefix(b.b[at:], recFrame(x.gen+1, uint64(n)+1, []byte(s))) {
				t.Errorf("P13.1: behind the generation %d, the record %d is %x", x.gen, n+1, b.b[at:at+64])
			}
		}
	}
}

// numberAt is some number, at the limits more often than not.
func numberAt(rnd *rand.Rand) uint64 {
	ends := []uint64{0, 1, 2, 3, 127, 128, 1<<14 - 1, 1 << 32, 1<<63 - 1, 1 << 63, math.MaxUint64 - 1, math.MaxUint64}
	if rnd.Intn(4) == 0 {
		return rnd.Uint64() >> rnd.Intn(64)
	}
	return ends[rnd.Intn(len(ends))]
}

// randomPicture is a picture of some disk that may be a journal's: with seals and frames that are right, but for some that
// are otherwise.
func randomPicture(rnd *rand.Rand) picture {
	p := blank(64+rnd.Intn(2)*rnd.Intn(449), 6+rnd.Intn(20))
	if rnd.Intn(12) == 0 {
		rnd.Read(p.b)
		return p
	}
	gens := []uint64{numberAt(rnd), numberAt(rnd)}
	turn := numberAt(rnd)
	for i, gen := range gens {
		var l []string
		for _, rec := range randomRecs(rnd, p.size, 5) {
			if len(l) < areaOf(p.count())/4 && len(rec) < p.size {
				l = append(l, string(rec))
			}
		}
		p = p.records(gen, l...)
		records := uint64(max(len(l)-rnd.Intn(3)/2, 0))
		if rnd.Intn(12) == 0 {
			records = numberAt(rnd)
		}
		p = p.seal(turn+uint64(i), gen, records)
	}
	for range rnd.Intn(6) / 4 {
		at := rnd.Intn(len(p.b))
		if rnd.Intn(2) == 0 {
			at = rnd.Intn(4*p.size)/p.size*p.size + rnd.Intn(20)
		}
		p.b[at] ^= byte(1 << rnd.Intn(8))
	}
	return p
}
