package journal

import (
	"iter"

	"scrutineer/api"
	"scrutineer/pack"
	"scrutineer/sector"
	"scrutineer/sum"
)

// headBytes is how many bytes of a frame tell how many marked ones stand behind them: two, and their own mark.
const headBytes = 6

// isLong tells whether a record has too many bytes.
func isLong(rec []byte) bool {
	return len(rec) > api.MostRecord
}

// putRecord is the frame of a record that isn't too long.
func putRecord(generation, number uint64, rec []byte, size int) []byte {
	b := pack.PutNum(nil, generation)
	b = pack.PutNum(b, number)
	return putFrame(pack.PutRow(b, rec), size)
}

// putFrame is bytes as a frame, in whole sectors of a size.
func putFrame(b []byte, size int) []byte {
	marked := sum.Mark(b)
	head := sum.Mark([]byte{byte(len(marked) >> 8), byte(len(marked))})
	frame := make([]byte, sectorsFor(len(head)+len(marked), size)*size)
	copy(frame[copy(frame, head):], marked)
	return frame
}

// sectorsFor is how many sectors so many bytes take.
func sectorsFor(many, size int) int {
	return (many + size - 1) / size
}

// frames goes through the bytes of so many frames, and how many sectors each takes: of those that stand one behind the
// other, from one sector on and ahead of another one, as far as they are right.
func frames(d *sector.Disk, front, end int, many uint64) iter.Seq2[[]byte, int] {
	return func(yield func([]byte, int) bool) {
		at := front
		for n := uint64(0); n < many && at < end; n++ {
			b, sectors := getFrame(d, at, end)
			if sectors == 0 || !yield(b, sectors) {
				return
			}
			at += sectors
		}
	}
}

// getFrame is the bytes of the frame that begins at a sector and ends ahead of another one, and how many sectors it takes;
// 0, if it isn't right.
func getFrame(d *sector.Disk, at, end int) ([]byte, int) {
	head, e := sum.Fits(read(d, at, 1)[:headBytes])
	if e != api.OK {
		return nil, 0
	}
	ends := headBytes + int(head[0])<<8 + int(head[1])
	sectors := sectorsFor(ends, d.Size())
	if sectors > end-at {
		return nil, 0
	}
	b, e := sum.Fits(read(d, at, sectors)[headBytes:ends])
	if e != api.OK {
		return nil, 0
	}
	return b, sectors
}

// read is the bytes of sectors of a disk that is on, one behind the other.
func read(d *sector.Disk, at, sectors int) []byte {
	var b []byte
	for i := range sectors {
		// Of a disk that is on each sector is read: it doesn't fall at that.
		s, _ := d.Read(at + i)
		b = append(b, s...)
	}
	return b
}
