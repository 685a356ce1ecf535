package octet

import (
	"bytes"
	"encoding/binary"
	"math/rand/v2"
	"slices"
	"testing"

	"artesian/api"
)

// behind is what stands in the spare room of what is handed in, and must be found there again.
const behind = 0x5a

// lend tells bytes with spare room behind them that is filled.
func lend(b []byte) []byte {
	whole := append(slices.Clone(b), bytes.Repeat([]byte{behind}, 24)...)
	return whole[:len(b)]
}

// touched tells whether what was lent, or its spare room, is no longer what it was.
func touched(lent, was []byte) bool {
	whole := lent[:len(lent)+24]
	return !bytes.Equal(whole[:len(lent)], was) || !bytes.Equal(whole[len(lent):], bytes.Repeat([]byte{behind}, 24))
}

// scribble writes over bytes, and over their spare room.
func scribble(b []byte) {
	for i := range b[:cap(b)] {
		b[:cap(b)][i] = 0xee
	}
}

// someBytes tells bytes, always the same ones for the same source.
func someBytes(r *rand.Rand, n int) []byte {
	b := make([]byte, n)
	for i := range b {
		b[i] = byte(r.IntN(256))
	}
	return b
}

// field is a number in a width, or, where the width is 0, bytes.
type field struct {
	width, n int
	raw      []byte
}

// bytes tells a field's bytes, a number's by the library.
func (f field) bytes() []byte {
	switch f.width {
	case 1:
		return []byte{byte(f.n)}
	case 2:
		return binary.BigEndian.AppendUint16(nil, uint16(f.n))
	case 4:
		return binary.BigEndian.AppendUint32(nil, uint32(f.n))
	case 8:
		return binary.BigEndian.AppendUint64(nil, uint64(f.n))
	}
	return f.raw
}

// someFields tells fields, and their bytes one behind the other.
func someFields(r *rand.Rand) ([]field, []byte) {
	var fields []field
	var all []byte
	for range r.IntN(40) {
		var f field
		if r.IntN(3) == 0 {
			f.raw = someBytes(r, r.IntN([]int{1, 5, 700}[r.IntN(3)]+1))
		} else {
			f.width = widths[r.IntN(4)]
			f.n = int(r.Uint64() >> 1 >> (63 - r.IntN(min(8*f.width, 63)+1)))
		}
		fields = append(fields, f)
		all = append(all, f.bytes()...)
	}
	return fields, all
}

// P10.4

func TestWhatIsWrittenIsRead(t *testing.T) {
	source := rand.New(rand.NewPCG(1001, 1002))
	for range 2000 {
		fields, right := someFields(source)
		w := writer(t, len(right))
		for _, f := range fields {
			if f.width > 0 {
				wantPut(t, w, f.width, f.n, api.OK)
			} else {
				wantRawPut(t, w, f.raw, api.OK)
			}
		}
		wantBytes(t, w, right)
		written, _ := w.Bytes()
		r, place := NewReader(written), 0
		for _, f := range fields {
			if got := r.Rest(); got != len(right)-place {
				t.Errorf("Rest: got %d, want %d", got, len(right)-place)
			}
			if f.width > 0 {
				wantGet(t, r, f.width, f.n)
			} else {
				wantRaw(t, r, len(f.raw), f.raw)
			}
			place += len(f.bytes())
		}
		wantLeft(t, r, 0, none)
	}
}

func TestEachNumberOfTwoBytes(t *testing.T) {
	for n := range 65536 {
		w := writer(t, 3)
		if w.Put(2, n) != api.OK || w.Put(1, n/256) != api.OK {
			t.Fatalf("%d is not laid", n)
		}
		b, _ := w.Bytes()
		r := NewReader(b)
		if r.Get(2) != n || r.Get(1) != n/256 || r.End() != none {
			t.Fatalf("%d is laid as %d, or not read as it was", n, b)
		}
	}
}

func TestEachBitOfEachWidth(t *testing.T) {
	for _, width := range widths {
		for bit := range min(8*width, 63) {
			for _, n := range []int{1 << bit, 1<<bit - 1, greatest(width) ^ 1<<bit} {
				w := writer(t, width)
				wantPut(t, w, width, n, api.OK)
				wantBytes(t, w, field{width: width, n: n}.bytes())
				r := NewReader(spelled(width, n))
				wantGet(t, r, width, n)
				wantLeft(t, r, 0, none)
			}
		}
	}
}

func TestWhatIsTakenOffIsWhatStoodThere(t *testing.T) {
	source := rand.New(rand.NewPCG(1003, 1004))
	for range 3000 {
		b := someBytes(source, source.IntN(60))
		r, place, fault := NewReader(b), 0, none
		for range 30 {
			place, fault = goOn(t, source, r, b, place, fault)
			rest, end := len(b)-place, fault
			if fault != none {
				rest = 0
			} else if rest > 0 {
				end = at(api.ErrLong, place)
			}
			wantLeft(t, r, rest, end)
		}
	}
}

// goOn takes something off a reader that stands at a place, or would if there weren't a fault, as the chapter says it, and tells where the reader stands then.
func goOn(t *testing.T, source *rand.Rand, r *Reader, b []byte, place int, fault api.Fault) (int, api.Fault) {
	t.Helper()
	n := source.IntN(13) - source.IntN(2)*source.IntN(2)*source.IntN(2)
	asNumber := source.IntN(2) == 0
	if asNumber && source.IntN(5) > 0 {
		n = widths[source.IntN(4)]
	}
	wrong := n < 0 || asNumber && !slices.Contains(widths, n)
	number, taken, behindIt := 0, []byte(nil), place
	switch {
	case fault != none:
	case wrong:
		fault = at(api.ErrArg, place)
	case n > len(b)-place:
		fault = at(api.ErrShort, len(b))
	case asNumber && n == 8 && b[place] > 127:
		fault = at(api.ErrRange, place)
	default:
		taken, behindIt = b[place:place+n], place+n
		for _, x := range taken {
			if asNumber {
				number = number*256 + int(x)
			}
		}
	}
	if asNumber {
		wantGet(t, r, n, number)
	} else {
		wantRaw(t, r, n, taken)
	}
	return behindIt, fault
}

func TestWhatIsLaidStandsBehind(t *testing.T) {
	source := rand.New(rand.NewPCG(1005, 1006))
	for range 3000 {
		most := source.IntN(80)
		w, right, broken := writer(t, most), []byte(nil), api.OK
		for range 30 {
			right, broken = layOn(t, source, w, most, right, broken)
			if broken == api.OK {
				wantBytes(t, w, right)
			} else if got, err := w.Bytes(); err != broken || len(got) != 0 {
				t.Errorf("Bytes: got %d of them, %v, want none, %v", len(got), err, broken)
			}
		}
	}
}

// layOn lays something into a writer that has those bytes, or would if there weren't an error, as the chapter says it, and tells what it has then.
func layOn(t *testing.T, source *rand.Rand, w *Writer, most int, had []byte, broken api.Errno) ([]byte, api.Errno) {
	t.Helper()
	b := someBytes(source, source.IntN(6))
	width, n := 0, 0
	asNumber := source.IntN(2) == 0
	if asNumber {
		width = []int{1, 1, 2, 2, 4, 4, 8, 8, source.IntN(20) - 2}[source.IntN(9)]
		n = int(source.Uint64()>>source.IntN(64)) >> source.IntN(64)
	}
	allowed := !asNumber || slices.Contains(widths, width)
	if asNumber && allowed && n >= 0 {
		b = spelled(width, n)
	}
	switch {
	case broken != api.OK:
	case !allowed:
		broken = api.ErrArg
	case n < 0 || asNumber && n > greatest(width):
		broken = api.ErrRange
	case len(had)+len(b) > most:
		broken = api.ErrLong
	default:
		had = slices.Concat(had, b)
	}
	if asNumber {
		wantPut(t, w, width, n, broken)
	} else {
		wantRawPut(t, w, b, broken)
	}
	return had, broken
}

// Rule 4: an answer is new memory, and what was handed in stays as it was and is not kept

func TestWriterKeepsNoBytesOfOthers(t *testing.T) {
	for _, n := range []int{0, 1, 2, 8, 9, 1000, 100000} {
		b := count(n, 3, 7)
		lent := lend(b)
		w := writer(t, 100000)
		wantRawPut(t, w, lent, api.OK)
		if touched(lent, b) {
			t.Errorf("Raw of %d bytes changed them", n)
		}
		scribble(lent)
		wantBytes(t, w, b)
		if n < 100000 {
			// What is laid behind goes into no spare room of what was handed in.
			lent = lend(b)
			w = writer(t, 100000)
			wantRawPut(t, w, lent, api.OK)
			wantPut(t, w, 1, 5, api.OK)
			if touched(lent, b) {
				t.Errorf("Put behind Raw of %d bytes changed them", n)
			}
			wantBytes(t, w, append(slices.Clone(b), 5))
		}
	}
}

func TestRefusedBytesStay(t *testing.T) {
	b := count(9, 3, 7)
	for most := range 9 {
		lent := lend(b)
		w := writer(t, most)
		wantRawPut(t, w, lent, api.ErrLong)
		wantRawPut(t, w, lent, api.ErrLong)
		if touched(lent, b) {
			t.Errorf("Raw of %d bytes into %d changed them", len(b), most)
		}
	}
}

func TestBytesAreNewMemory(t *testing.T) {
	for _, n := range []int{0, 1, 2, 8, 9, 1000} {
		w, b := full(t, n, 20)
		early, _ := w.Bytes()
		again, _ := w.Bytes()
		scribble(early)
		if !bytes.Equal(again, b) {
			t.Errorf("two answers of Bytes share memory")
		}
		wantBytes(t, w, b)
		wantPut(t, w, 8, 258, api.OK)
		// What was told goes into what is laid behind it as little as that into this.
		scribble(again)
		wantBytes(t, w, slices.Concat(b, spelled(8, 258)))
		late, _ := w.Bytes()
		right := slices.Clone(late)
		wantRawPut(t, w, []byte{1, 2, 3}, api.OK)
		wantPut(t, w, 1, 256, api.ErrRange)
		if !bytes.Equal(late, right) {
			t.Errorf("what Bytes told was changed by what was laid later")
		}
	}
}

func TestReaderKeepsNoBytesOfOthers(t *testing.T) {
	for _, n := range []int{0, 1, 2, 8, 9, 1000} {
		b := count(n, 3, 7)
		lent := lend(b)
		r := NewReader(lent)
		if touched(lent, b) {
			t.Errorf("NewReader of %d bytes changed them", n)
		}
		scribble(lent)
		wantRaw(t, r, n, b)
		wantLeft(t, r, 0, none)

		lent = lend(b)
		r = NewReader(lent)
		half := r.Raw(n / 2)
		scribble(half)
		scribble(r.Raw(n - n/2))
		if touched(lent, b) {
			t.Errorf("Raw of %d bytes handed out or changed what was handed in", n)
		}
	}
}

func TestReaderLooksNoFurtherThanTheEnd(t *testing.T) {
	for n := range 9 {
		b := count(n, 3, 7)
		r := NewReader(lend(b))
		wantRaw(t, r, n, b)
		wantLeft(t, r, 0, none)
		wantGet(t, r, 1, 0)
		wantStopped(t, r, at(api.ErrShort, n))
		r = NewReader(lend(b))
		wantRaw(t, r, n+1, nil)
		wantStopped(t, r, at(api.ErrShort, n))
	}
}

func TestRawIsNewMemory(t *testing.T) {
	b := count(30, 3, 7)
	r := NewReader(b)
	first := r.Raw(10)
	scribble(first)
	second := r.Raw(10)
	if !bytes.Equal(second, b[10:20]) {
		t.Errorf("what was taken off is what stands behind, or in its spare room")
	}
	scribble(second)
	if !bytes.Equal(first, bytes.Repeat([]byte{0xee}, 10)) {
		t.Errorf("what was taken off was changed later")
	}
	wantGet(t, r, 2, int(b[20])*256+int(b[21]))
	wantRaw(t, r, 8, b[22:])
	wantLeft(t, r, 0, none)
}

func TestReadersAreOnesByThemselves(t *testing.T) {
	b := count(9, 1, 1)
	one, two := NewReader(b), NewReader(b)
	wantGet(t, one, 1, 1)
	wantGet(t, one, 3, 0)
	wantLeft(t, two, 9, at(api.ErrLong, 0))
	wantRaw(t, two, 9, b)
	wantLeft(t, two, 0, none)
	wantStopped(t, one, at(api.ErrArg, 1))
}
