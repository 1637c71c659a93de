package journal_test

import (
	"bytes"
	"encoding/binary"
	"hash/crc32"
	"testing"

	"scrutineer/api"
	"scrutineer/sector"
)

// marked are bytes with their sum behind them.
func marked(b []byte) []byte {
	return binary.LittleEndian.AppendUint32(bytes.Clone(b), crc32.ChecksumIEEE(b))
}

// nums are the bytes of numbers.
func nums(l ...uint64) []byte {
	var b []byte
	for _, n := range l {
		b = binary.AppendUvarint(b, n)
	}
	return b
}

// frameOf is a frame of bytes, without the zeros behind it.
func frameOf(b []byte) []byte {
	m := marked(b)
	return append(marked(binary.BigEndian.AppendUint16(nil, uint16(len(m)))), m...)
}

// recFrame is a record's frame, without the zeros behind it.
func recFrame(gen, number uint64, rec []byte) []byte {
	return frameOf(append(nums(gen, number, uint64(len(rec))), rec...))
}

// sealFrame is a seal's frame, without the zeros behind it.
func sealFrame(turn, gen, records uint64) []byte {
	return frameOf(nums(turn, gen, records))
}

// filled are bytes, and zeros up to a whole sector behind them.
func filled(b []byte, size int) []byte {
	b = bytes.Clone(b)
	for len(b)%size != 0 {
		b = append(b, 0)
	}
	return b
}

// areaOf is how many sectors an area has.
func areaOf(count int) int {
	return (count - 2) / 2
}

// frontOf is the first sector of a generation's area.
func frontOf(gen uint64, count int) int {
	if gen%2 == 0 {
		return 2
	}
	return 2 + areaOf(count)
}

// picture is all bytes of a disk.
type picture struct {
	size int
	b    []byte
}

// blank is the picture of a new disk.
func blank(size, count int) picture {
	return picture{size: size, b: make([]byte, size*count)}
}

// taken is the picture of a disk that is on.
func taken(t *testing.T, d *sector.Disk) picture {
	t.Helper()
	p := picture{size: d.Size()}
	for i := range d.Count() {
		b, e := d.Read(i)
		must(t, "Read", e, api.OK)
		p.b = append(p.b, b...)
	}
	return p
}

// count is how many sectors a picture has.
func (p picture) count() int {
	return len(p.b) / p.size
}

// put is the picture with bytes at the front of a sector, and zeros behind them up to a whole one.
func (p picture) put(at int, b []byte) picture {
	p.b = bytes.Clone(p.b)
	copy(p.b[at*p.size:], filled(b, p.size))
	return p
}

// seal is the picture with a seal, in the sector of its turn.
func (p picture) seal(turn, gen, records uint64) picture {
	return p.put(int(turn%2), sealFrame(turn, gen, records))
}

// records is the picture with records of a generation in its area, from its front on.
func (p picture) records(gen uint64, l ...string) picture {
	at := frontOf(gen, p.count())
	for i, s := range l {
		f := recFrame(gen, uint64(i)+1, []byte(s))
		p = p.put(at, f)
		at += len(filled(f, p.size)) / p.size
	}
	return p
}

// disk is a disk of such a picture, of which all stays.
func (p picture) disk(t *testing.T) *sector.Disk {
	t.Helper()
	d := made(t, p.size, p.count())
	for i := range p.count() {
		must(t, "Write", d.Write(i, p.b[i*p.size:(i+1)*p.size]), api.OK)
	}
	must(t, "Sync", d.Sync(), api.OK)
	return d
}

// unmarked are marked bytes without their mark, and whether they are.
func unmarked(b []byte) ([]byte, bool) {
	if len(b) < 4 {
		return nil, false
	}
	front := b[:len(b)-4]
	return front, bytes.Equal(marked(front), b)
}

// unframed is what the frame at the front of bytes is of, and where it ends; whether it is right.
func unframed(b []byte) ([]byte, int, bool) {
	if len(b) < 6 || !bytes.Equal(marked(b[:2]), b[:6]) {
		return nil, 0, false
	}
	end := 6 + int(binary.BigEndian.Uint16(b))
	if end > len(b) {
		return nil, 0, false
	}
	body, ok := unmarked(b[6:end])
	return body, end, ok
}

// takeNums takes so many numbers from the front of bytes; whether they stand there as they are put.
func takeNums(b []byte, many int) ([]uint64, []byte, bool) {
	var l []uint64
	for range many {
		n, used := binary.Uvarint(b)
		if used <= 0 || used != len(nums(n)) {
			return nil, nil, false
		}
		l, b = append(l, n), b[used:]
	}
	return l, b, true
}

// has is what a disk of such a picture has: of the seal that counts its turn and its generation, and the records; whether
// it isn't spoilt.
func (p picture) has() (turn, gen uint64, recs [][]byte, ok bool) {
	var best []uint64
	for i := range 2 {
		body, _, right := unframed(p.b[i*p.size : (i+1)*p.size])
		l, rest, plain := takeNums(body, 3)
		if right && plain && len(rest) == 0 && l[0]%2 == uint64(i) && (best == nil || l[0] > best[0]) {
			best = l
		}
	}
	if best == nil {
		return 0, 0, nil, bytes.Count(p.b[:2*p.size], []byte{0}) == 2*p.size
	}
	front := frontOf(best[1], p.count())
	area := p.b[front*p.size : (front+areaOf(p.count()))*p.size]
	for n := uint64(1); n <= best[2]; n++ {
		body, end, right := unframed(area)
		l, rest, plain := takeNums(body, 3)
		if !right || !plain || l[0] != best[1] || l[1] != n || l[2] != uint64(len(rest)) || l[2] > api.MostRecord {
			return 0, 0, nil, false
		}
		recs = append(recs, bytes.Clone(rest))
		area = area[len(filled(area[:end], p.size)):]
	}
	return best[0], best[1], recs, true
}
