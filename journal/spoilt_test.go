package journal_test

import (
	"fmt"
	"math/rand"
	"testing"

	"scrutineer/api"
	"scrutineer/journal"
)

// isMarked tells of each byte of a picture whether it is one of the marked bytes, or of their length, of a record that
// counts.
func isMarked(p picture) []bool {
	is := make([]bool, len(p.b))
	_, gen, recs, _ := p.has()
	at := frontOf(gen, p.count()) * p.size
	for n, rec := range recs {
		f := recFrame(gen, uint64(n)+1, rec)
		for i := range f {
			is[at+i] = true
		}
		at += len(filled(f, p.size))
	}
	return is
}

// byElder is what a picture has without its younger seal; whether it isn't spoilt then.
func byElder(p picture) ([][]byte, bool) {
	turn, _, _, _ := p.has()
	_, _, l, ok := p.put(int(turn%2), []byte("spoilt")).has()
	return l, ok
}

// holdSpoilt holds what is there of a picture with bits of a byte turned.
func holdSpoilt(t *testing.T, what string, p picture, n int, l [][]byte, e api.Errno) {
	t.Helper()
	_, _, has, _ := p.has()
	elder, isSealedTwice := byElder(p)
	isAll := e == api.OK && sameRecs(l, has)
	isTold := e == api.ErrSum && len(l) == 0
	isRight := isAll
	switch isSeal := n < 2*p.size; {
	case isMarked(p)[n]:
		isRight = isTold
	case isSeal && !isSealedTwice:
		isRight = isAll || isTold
	case isSeal && !sameRecs(elder, has):
		// It fell between the seals: of what was under way P13.2 lets it be there, or not.
		isRight = isAll || e == api.OK && sameRecs(l, elder)
	}
	if !isRight {
		t.Fatalf("P13.3: %s, the byte %d of the sector %d spoilt: %q, %v, not %q", what, n%p.size, n/p.size, l, e, has)
	}
}

func TestEachByteSpoilt(t *testing.T) {
	rnd := rand.New(rand.NewSource(5))
	for _, size := range []int{64, 101} {
		for _, row := range histories() {
			b, _ := replayed(t, size, 14, row)
			p := taken(t, b.d)
			for n := range p.b {
				for _, by := range []uint8{1, 16, 128, 255, uint8(1 + rnd.Intn(255))} {
					must(t, "Spoil", b.d.Spoil(n/size, n%size, by), api.OK)
					_, l, e := journal.Open(b.d)
					must(t, "Spoil", b.d.Spoil(n/size, n%size, by), api.OK)
					holdSpoilt(t, fmt.Sprint(row), p, n, l, e)
				}
			}
		}
	}
}

func TestANewDiskSpoilt(t *testing.T) {
	for n := range 6 * 64 {
		d := made(t, 64, 6)
		must(t, "Spoil", d.Spoil(n/64, n%64, 2), api.OK)
		if n < 2*64 {
			notOpened(t, "P13.3", d, api.ErrSum)
		} else {
			opened(t, "P13.3", d)
		}
	}
}

func TestASpoiltSealIsWrittenOver(t *testing.T) {
	for _, row := range histories()[1:6] {
		for at := range 2 {
			for _, c := range []call{{name: "Append", rec: []byte("next")}, {name: "Compact", l: recs("only", long(100))}} {
				for n := 0; ; n++ {
					b, has := replayed(t, 64, 40, row)
					must(t, "Spoil", b.d.Spoil(at, 7, 4), api.OK)
					b.ask(call{name: "Open"})
					b.d.Fuse(n)
					e := b.ask(c).err
					b.d.Back(n%3, n%2 == 0)
					_, l, opened := journal.Open(b.d)
					if opened != api.OK || !sameRecs(l, behindCall(has, c)) && (e == api.OK || !sameRecs(l, has)) {
						t.Fatalf("P13.3: behind %v, the seal in %d spoilt, %v: %v: %q, %v", row, at, c, e, l, opened)
					}
					holdGoesOn(t, "P13.3", b.d, l)
					if e == api.OK {
						break
					}
				}
			}
		}
	}
}

func TestBothSealsSpoilt(t *testing.T) {
	for _, row := range histories()[1:] {
		b, _ := replayed(t, 64, 22, row)
		for at := range 2 {
			must(t, "Spoil", b.d.Spoil(at, 8, 1), api.OK)
		}
		notOpened(t, "P13.3", b.d, api.ErrSum)
	}
}
