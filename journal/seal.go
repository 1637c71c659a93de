package journal

import (
	"bytes"
	"math"

	"scrutineer/api"
	"scrutineer/pack"
	"scrutineer/sector"
)

// seals is how many seals there are, each in a sector of its own.
const seals = 2

// seal tells which records count: the first so many of a generation.
type seal struct {
	turn, generation, records uint64
}

// place is the sector in which a seal stands.
func (s seal) place() int {
	return int(s.turn % seals)
}

// putSeal is a seal's frame.
func putSeal(s seal, size int) []byte {
	b := pack.PutNum(nil, s.turn)
	b = pack.PutNum(b, s.generation)
	b = pack.PutNum(b, s.records)
	return putFrame(b, size)
}

// getSeal is the seal that stands in a sector, and whether it is right.
func getSeal(d *sector.Disk, at int) (seal, bool) {
	b, _ := getFrame(d, at, at+1)
	r := pack.New(b)
	s := seal{
		turn:       r.Num(math.MaxUint64),
		generation: r.Num(math.MaxUint64),
		records:    r.Num(math.MaxUint64),
	}
	return s, r.End() == api.OK && s.place() == at
}

// lastSeal is the seal that counts; a zero one, where there never was one.
func lastSeal(d *sector.Disk) (seal, api.Errno) {
	var last seal
	isSealed := false
	for at := range seals {
		s, isRight := getSeal(d, at)
		if isRight && s.turn >= last.turn {
			last, isSealed = s, true
		}
	}
	if !isSealed && !isZero(read(d, 0, seals)) {
		return seal{}, api.ErrSum
	}
	return last, api.OK
}

// isZero tells whether all bytes are zeros.
func isZero(b []byte) bool {
	return bytes.Equal(b, make([]byte, len(b)))
}
