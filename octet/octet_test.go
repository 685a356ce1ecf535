package octet

import (
	"bytes"
	"math"
	"slices"
	"testing"

	"artesian/api"
)

// widths are those that there are, notWidths some that there are not: those beside them, and the ends of all.
var (
	widths    = []int{1, 2, 4, 8}
	notWidths = []int{math.MinInt, -8, -4, -2, -1, 0, 3, 5, 6, 7, 9, 10, 12, 15, 16, 17, 32, 64, 256, math.MaxInt}
)

// none is the fault that there is none.
var none = api.Fault{}

// at tells a fault.
func at(err api.Errno, place int) api.Fault {
	return api.Fault{Err: err, At: place}
}

// greatest tells the greatest number that a width has room for, and that an int can be.
func greatest(width int) int {
	if width == 8 {
		return math.MaxInt
	}
	return 1<<(8*width) - 1
}

// spelled tells a number's bytes in a width by the chapter's words, the highest first.
func spelled(width, n int) []byte {
	b := make([]byte, width)
	for i := width - 1; i >= 0; i-- {
		b[i] = byte(n % 256)
		n /= 256
	}
	return b
}

// count tells n bytes: first, first + step ..
func count(n int, first, step byte) []byte {
	b := make([]byte, n)
	for i := range b {
		b[i] = first + byte(i)*step
	}
	return b
}

// writer tells a writer, that must be made.
func writer(t *testing.T, most int) *Writer {
	t.Helper()
	w, err := NewWriter(most)
	if err != api.OK || w == nil {
		t.Fatalf("NewWriter(%d): got %v, %v", most, w, err)
	}
	return w
}

// full tells a writer that has that many bytes and room for so many more, and those bytes.
func full(t *testing.T, had, room int) (*Writer, []byte) {
	t.Helper()
	w, b := writer(t, had+room), count(had, 1, 3)
	wantRawPut(t, w, b, api.OK)
	return w, b
}

// wantPut fails if a number isn't taken so.
func wantPut(t *testing.T, w *Writer, width, n int, right api.Errno) {
	t.Helper()
	if got := w.Put(width, n); got != right {
		t.Errorf("Put(%d, %d): got %v, want %v", width, n, got, right)
	}
}

// wantRawPut fails if bytes aren't taken so.
func wantRawPut(t *testing.T, w *Writer, b []byte, right api.Errno) {
	t.Helper()
	if got := w.Raw(b); got != right {
		t.Errorf("Raw of %d bytes: got %v, want %v", len(b), got, right)
	}
}

// wantBytes fails if a writer hasn't those bytes.
func wantBytes(t *testing.T, w *Writer, right []byte) {
	t.Helper()
	if got, err := w.Bytes(); err != api.OK || !bytes.Equal(got, right) {
		t.Errorf("Bytes: got %d of them, %v, want %d, or not the same", len(got), err, len(right))
	}
}

// wantBroken fails if a writer hasn't that error, or doesn't answer it whatever is asked.
func wantBroken(t *testing.T, w *Writer, right api.Errno) {
	t.Helper()
	for range 2 {
		if got, err := w.Bytes(); err != right || len(got) != 0 {
			t.Errorf("Bytes: got %d of them, %v, want none, %v", len(got), err, right)
		}
		wantRawPut(t, w, nil, right)
		wantRawPut(t, w, []byte{}, right)
		wantRawPut(t, w, []byte{1}, right)
		wantRawPut(t, w, make([]byte, 100001), right)
		wantPut(t, w, 1, 0, right)
		wantPut(t, w, 8, 0, right)
		wantPut(t, w, 1, 256, right)
		wantPut(t, w, 1, -1, right)
		wantPut(t, w, 3, 0, right)
	}
}

// wantGet fails if another number is taken.
func wantGet(t *testing.T, r *Reader, width, right int) {
	t.Helper()
	if got := r.Get(width); got != right {
		t.Errorf("Get(%d): got %d, want %d", width, got, right)
	}
}

// wantRaw fails if other bytes are taken.
func wantRaw(t *testing.T, r *Reader, n int, right []byte) {
	t.Helper()
	if got := r.Raw(n); !bytes.Equal(got, right) {
		t.Errorf("Raw(%d): got %d bytes, want %d, or not the same", n, len(got), len(right))
	}
}

// wantLeft fails if a reader hasn't so many bytes behind the place, or doesn't end so; asked twice, for asking changes nothing.
func wantLeft(t *testing.T, r *Reader, rest int, end api.Fault) {
	t.Helper()
	for range 2 {
		if got := r.Rest(); got != rest {
			t.Errorf("Rest: got %d, want %d", got, rest)
		}
		if got := r.End(); got != end {
			t.Errorf("End: got %v, want %v", got, end)
		}
	}
}

// wantStopped fails if a reader hasn't that fault, or doesn't stay with it whatever is asked.
func wantStopped(t *testing.T, r *Reader, right api.Fault) {
	t.Helper()
	wantLeft(t, r, 0, right)
	for _, n := range slices.Concat([]int{0, 1, 2, 3, 4, 8}, notWidths) {
		wantGet(t, r, n, 0)
		wantRaw(t, r, n, nil)
		wantLeft(t, r, 0, right)
	}
}

// The chapter's table of examples

func TestExamplesOfWriters(t *testing.T) {
	w := writer(t, 4)
	wantPut(t, w, 2, 258, api.OK)
	wantRawPut(t, w, []byte{9}, api.OK)
	wantPut(t, w, 1, 256, api.ErrRange)
	wantRawPut(t, w, nil, api.ErrRange)
	wantBroken(t, w, api.ErrRange)

	w = writer(t, 3)
	wantPut(t, w, 2, 258, api.OK)
	wantRawPut(t, w, []byte{9}, api.OK)
	wantBytes(t, w, []byte{1, 2, 9})
	wantPut(t, w, 1, 0, api.ErrLong)
	wantBroken(t, w, api.ErrLong)
}

func TestExamplesOfReaders(t *testing.T) {
	r := NewReader([]byte{1, 2, 9, 9})
	wantGet(t, r, 2, 258)
	wantRaw(t, r, 1, []byte{9})
	wantLeft(t, r, 1, at(api.ErrLong, 3))
	wantGet(t, r, 2, 0)
	wantLeft(t, r, 0, at(api.ErrShort, 4))

	r = NewReader(nil)
	wantLeft(t, r, 0, none)
	wantGet(t, r, 3, 0)
	wantLeft(t, r, 0, at(api.ErrArg, 0))
}

// P10.1

func TestNewWriterAtBothEnds(t *testing.T) {
	for _, most := range []int{0, 1, 2, 4, 255, 256, 65535, 99999, 100000} {
		wantBytes(t, writer(t, most), nil)
	}
	for _, most := range []int{-1, -2, -100000, math.MinInt, 100001, 100002, 1 << 32, math.MaxInt} {
		if w, err := NewWriter(most); err != api.ErrArg || w != nil {
			t.Errorf("NewWriter(%d): got %v, %v, want none, %v", most, w, err, api.ErrArg)
		}
	}
}

func TestWriterHasRoomForJustSoMany(t *testing.T) {
	for _, most := range []int{0, 1, 2, 3, 7, 8, 9, 1000, 99999, 100000} {
		w, b := writer(t, most), count(most, 5, 7)
		wantRawPut(t, w, b, api.OK)
		wantBytes(t, w, b)
		wantRawPut(t, w, nil, api.OK)
		wantBytes(t, w, b)
		wantRawPut(t, w, []byte{1}, api.ErrLong)
		wantBroken(t, w, api.ErrLong)

		w = writer(t, most)
		wantRawPut(t, w, count(most+1, 5, 7), api.ErrLong)
		wantBroken(t, w, api.ErrLong)
	}
}

func TestWriterFilledByteByByte(t *testing.T) {
	for _, most := range []int{1, 9, 100000} {
		w, b := writer(t, most), count(most, 0, 1)
		for _, x := range b {
			if w.Put(1, int(x)) != api.OK {
				t.Fatalf("a writer of %d takes no more ahead of its most", most)
			}
		}
		wantBytes(t, w, b)
		wantPut(t, w, 1, 0, api.ErrLong)
		wantBroken(t, w, api.ErrLong)
	}
}

// P10.2

func TestPutOfWrittenNumbers(t *testing.T) {
	for _, x := range []struct {
		width, n int
		right    []byte
	}{
		{1, 0, []byte{0}}, {1, 7, []byte{7}}, {1, 255, []byte{255}},
		{2, 0, []byte{0, 0}}, {2, 255, []byte{0, 255}}, {2, 256, []byte{1, 0}}, {2, 65535, []byte{255, 255}},
		{4, 0, []byte{0, 0, 0, 0}}, {4, 65536, []byte{0, 1, 0, 0}}, {4, 0x01020304, []byte{1, 2, 3, 4}},
		{4, 1<<32 - 1, []byte{255, 255, 255, 255}},
		{8, 0, []byte{0, 0, 0, 0, 0, 0, 0, 0}}, {8, 1 << 32, []byte{0, 0, 0, 1, 0, 0, 0, 0}},
		{8, 0x0102030405060708, []byte{1, 2, 3, 4, 5, 6, 7, 8}},
		{8, math.MaxInt, []byte{127, 255, 255, 255, 255, 255, 255, 255}},
	} {
		w := writer(t, x.width)
		wantPut(t, w, x.width, x.n, api.OK)
		wantBytes(t, w, x.right)
	}
}

func TestPutAtBothEndsOfEachWidth(t *testing.T) {
	for _, width := range widths {
		most := greatest(width)
		for _, n := range []int{0, 1, most / 2, most/2 + 1, most - 1, most} {
			w, b := full(t, 3, width)
			wantPut(t, w, width, n, api.OK)
			wantBytes(t, w, slices.Concat(b, spelled(width, n)))
		}
		for _, n := range []int{-1, -2, -most, math.MinInt + 1, math.MinInt} {
			w, _ := full(t, 3, width)
			wantPut(t, w, width, n, api.ErrRange)
			wantBroken(t, w, api.ErrRange)
		}
	}
}

func TestPutOfNumbersTooGreat(t *testing.T) {
	for _, width := range []int{1, 2, 4} {
		beyond := greatest(width) + 1
		for _, n := range []int{beyond, beyond + 1, 2 * beyond, beyond << 8, 1 << 32, 1 << 62, math.MaxInt} {
			w, _ := full(t, 3, width)
			wantPut(t, w, width, n, api.ErrRange)
			wantBroken(t, w, api.ErrRange)
		}
	}
}

func TestPutOfNoWidth(t *testing.T) {
	for _, width := range notWidths {
		for _, n := range []int{0, 1, -1, 255, 256, math.MaxInt, math.MinInt} {
			w, _ := full(t, 3, 100)
			wantPut(t, w, width, n, api.ErrArg)
			wantBroken(t, w, api.ErrArg)
		}
	}
}

func TestPutWithTooLittleRoom(t *testing.T) {
	for _, had := range []int{0, 1, 5, 99990} {
		for _, width := range widths {
			for room := range width {
				w, _ := full(t, had, room)
				wantPut(t, w, width, 0, api.ErrLong)
				wantBroken(t, w, api.ErrLong)
			}
			w, b := full(t, had, width)
			wantPut(t, w, width, greatest(width), api.OK)
			b = append(b, spelled(width, greatest(width))...)
			wantBytes(t, w, b)
			wantRawPut(t, w, []byte{}, api.OK)
			wantBytes(t, w, b)
			wantPut(t, w, 1, 0, api.ErrLong)
			wantBroken(t, w, api.ErrLong)
		}
	}
}

func TestRawWithTooLittleRoom(t *testing.T) {
	for _, had := range []int{0, 1, 5, 99990} {
		for room := range 10 {
			w, _ := full(t, had, room)
			wantRawPut(t, w, make([]byte, room+1), api.ErrLong)
			wantBroken(t, w, api.ErrLong)

			w, b := full(t, had, room)
			wantRawPut(t, w, count(room, 200, 1), api.OK)
			wantBytes(t, w, slices.Concat(b, count(room, 200, 1)))
		}
		w, _ := full(t, had, 10)
		wantRawPut(t, w, make([]byte, 1<<20), api.ErrLong)
		wantBroken(t, w, api.ErrLong)
	}
}

func TestRawOfNone(t *testing.T) {
	w := writer(t, 0)
	for _, b := range [][]byte{nil, {}, nil} {
		wantRawPut(t, w, b, api.OK)
		wantBytes(t, w, nil)
	}
	w, b := full(t, 4, 1)
	wantRawPut(t, w, nil, api.OK)
	wantPut(t, w, 1, 3, api.OK)
	wantRawPut(t, w, []byte{}, api.OK)
	wantBytes(t, w, append(b, 3))
}

func TestPutNamesTheFirstError(t *testing.T) {
	for _, x := range []struct {
		room, width, n int
		right          api.Errno
	}{
		{0, 3, -1, api.ErrArg}, {0, 0, 0, api.ErrArg}, {0, -1, 1 << 40, api.ErrArg}, {0, 16, math.MinInt, api.ErrArg}, {0, 1000, 0, api.ErrArg},
		{0, 1, -1, api.ErrRange}, {0, 1, 256, api.ErrRange}, {1, 2, 65536, api.ErrRange}, {3, 4, 1 << 32, api.ErrRange}, {7, 8, -1, api.ErrRange},
		{0, 1, 255, api.ErrLong}, {1, 2, 65535, api.ErrLong}, {3, 4, 1<<32 - 1, api.ErrLong}, {7, 8, math.MaxInt, api.ErrLong},
	} {
		w, _ := full(t, 2, x.room)
		wantPut(t, w, x.width, x.n, x.right)
		wantBroken(t, w, x.right)
	}
}

func TestWritersAreOnesByThemselves(t *testing.T) {
	one, two := writer(t, 2), writer(t, 3)
	wantPut(t, one, 2, 258, api.OK)
	wantPut(t, two, 1, 7, api.OK)
	wantPut(t, one, 1, 0, api.ErrLong)
	wantPut(t, two, 2, 772, api.OK)
	wantBytes(t, two, []byte{7, 3, 4})
	wantBroken(t, one, api.ErrLong)
	wantBytes(t, two, []byte{7, 3, 4})
}

// P10.3

func TestGetOfWrittenBytes(t *testing.T) {
	for _, x := range []struct {
		b     []byte
		right int
	}{
		{[]byte{0}, 0}, {[]byte{7}, 7}, {[]byte{128}, 128}, {[]byte{255}, 255},
		{[]byte{0, 0}, 0}, {[]byte{0, 1}, 1}, {[]byte{1, 2}, 258}, {[]byte{128, 0}, 32768}, {[]byte{255, 255}, 65535},
		{[]byte{0, 0, 0, 1}, 1}, {[]byte{1, 2, 3, 4}, 0x01020304}, {[]byte{255, 255, 255, 255}, 1<<32 - 1},
		{[]byte{0, 0, 0, 0, 0, 0, 0, 1}, 1}, {[]byte{1, 2, 3, 4, 5, 6, 7, 8}, 0x0102030405060708},
		{[]byte{127, 255, 255, 255, 255, 255, 255, 255}, math.MaxInt},
	} {
		r := NewReader(x.b)
		wantGet(t, r, len(x.b), x.right)
		wantLeft(t, r, 0, none)

		r = NewReader(slices.Concat([]byte{9, 9, 9}, x.b, []byte{5}))
		wantRaw(t, r, 3, []byte{9, 9, 9})
		wantGet(t, r, len(x.b), x.right)
		wantLeft(t, r, 1, at(api.ErrLong, 3+len(x.b)))
		wantGet(t, r, 1, 5)
		wantLeft(t, r, 0, none)
	}
}

func TestGetOfEightTooGreat(t *testing.T) {
	for ahead := range 4 {
		for _, b := range [][]byte{
			{128, 0, 0, 0, 0, 0, 0, 0}, {128, 0, 0, 0, 0, 0, 0, 1}, {255, 255, 255, 255, 255, 255, 255, 255},
			{129, 0, 0, 0, 0, 0, 0, 0}, {192, 0, 0, 0, 0, 0, 0, 0}, {255, 0, 0, 0, 0, 0, 0, 0},
		} {
			for _, behind := range []int{0, 1, 9} {
				r := NewReader(slices.Concat(make([]byte, ahead), b, make([]byte, behind)))
				wantRaw(t, r, ahead, make([]byte, ahead))
				wantGet(t, r, 8, 0)
				wantStopped(t, r, at(api.ErrRange, ahead))
			}
		}
	}
}

func TestGetOfNoWidth(t *testing.T) {
	for _, width := range notWidths {
		for _, ahead := range []int{0, 1, 20} {
			r := NewReader(count(20, 1, 1))
			wantRaw(t, r, ahead, count(ahead, 1, 1))
			wantGet(t, r, width, 0)
			wantStopped(t, r, at(api.ErrArg, ahead))
		}
	}
}

func TestGetBeyondTheEnd(t *testing.T) {
	for _, width := range widths {
		for _, ahead := range []int{0, 1, 5, 1000} {
			// 0 is a place just at the end.
			for there := range width {
				r := NewReader(count(ahead+there, 255, 0))
				wantRaw(t, r, ahead, count(ahead, 255, 0))
				wantGet(t, r, width, 0)
				wantStopped(t, r, at(api.ErrShort, ahead+there))
			}
		}
	}
}

func TestRawOfReadBytes(t *testing.T) {
	b := count(300, 3, 7)
	for _, n := range []int{0, 1, 2, 3, 7, 8, 9, 255, 256, 299, 300} {
		r := NewReader(b)
		wantRaw(t, r, n, b[:n])
		if n < 300 {
			wantLeft(t, r, 300-n, at(api.ErrLong, n))
		}
		wantRaw(t, r, 300-n, b[n:])
		wantLeft(t, r, 0, none)
		wantRaw(t, r, 0, nil)
		wantLeft(t, r, 0, none)
	}
}

func TestRawBeyondTheEnd(t *testing.T) {
	for _, ahead := range []int{0, 1, 7} {
		for _, there := range []int{0, 1, 2, 9} {
			for _, n := range []int{there + 1, there + 2, there + 100, 1 << 31, 1 << 32, math.MaxInt - 1, math.MaxInt} {
				r := NewReader(count(ahead+there, 1, 1))
				wantRaw(t, r, ahead, count(ahead, 1, 1))
				wantRaw(t, r, n, nil)
				wantStopped(t, r, at(api.ErrShort, ahead+there))
			}
		}
	}
}

func TestRawOfFewerThanNone(t *testing.T) {
	for _, n := range []int{-1, -2, -20, math.MinInt + 1, math.MinInt} {
		for _, ahead := range []int{0, 1, 20} {
			r := NewReader(count(20, 1, 1))
			wantRaw(t, r, ahead, count(ahead, 1, 1))
			wantRaw(t, r, n, nil)
			wantStopped(t, r, at(api.ErrArg, ahead))
		}
	}
}

func TestReaderOfNoBytes(t *testing.T) {
	for _, b := range [][]byte{nil, {}} {
		r := NewReader(b)
		wantLeft(t, r, 0, none)
		wantRaw(t, r, 0, nil)
		wantLeft(t, r, 0, none)
		wantRaw(t, r, 1, nil)
		wantStopped(t, r, at(api.ErrShort, 0))
		for _, width := range widths {
			r = NewReader(b)
			wantGet(t, r, width, 0)
			wantStopped(t, r, at(api.ErrShort, 0))
		}
		for _, width := range notWidths {
			r = NewReader(b)
			wantGet(t, r, width, 0)
			wantStopped(t, r, at(api.ErrArg, 0))
		}
		r = NewReader(b)
		wantRaw(t, r, -1, nil)
		wantStopped(t, r, at(api.ErrArg, 0))
	}
}

func TestReaderNamesTheFirstError(t *testing.T) {
	// Of a width that there is not, as of too few bytes; of too few bytes, that would be too great.
	for _, width := range []int{3, 9, 100, math.MaxInt} {
		r := NewReader([]byte{255, 255})
		wantGet(t, r, 1, 255)
		wantGet(t, r, width, 0)
		wantStopped(t, r, at(api.ErrArg, 1))
	}
	r := NewReader(count(8, 255, 0))
	wantGet(t, r, 1, 255)
	wantGet(t, r, 8, 0)
	wantStopped(t, r, at(api.ErrShort, 8))
}

func TestFirstFaultStays(t *testing.T) {
	r := NewReader(count(20, 200, 1))
	wantGet(t, r, 1, 200)
	wantGet(t, r, 8, 0)
	wantStopped(t, r, at(api.ErrRange, 1))

	r = NewReader(count(20, 1, 1))
	wantRaw(t, r, 17, count(17, 1, 1))
	wantGet(t, r, 4, 0)
	wantStopped(t, r, at(api.ErrShort, 20))
}

func TestEndIsNotKept(t *testing.T) {
	b := count(9, 1, 1)
	r := NewReader(b)
	for place := range b {
		wantLeft(t, r, 9-place, at(api.ErrLong, place))
		wantGet(t, r, 1, place+1)
	}
	wantLeft(t, r, 0, none)
	wantGet(t, r, 1, 0)
	wantStopped(t, r, at(api.ErrShort, 9))
}

// Rule 5

func TestNoWriter(t *testing.T) {
	refused, _ := NewWriter(-1)
	for _, w := range []*Writer{nil, {}, new(Writer), refused} {
		wantBroken(t, w, api.ErrNil)
	}
}

func TestNoReader(t *testing.T) {
	for _, r := range []*Reader{nil, {}, new(Reader)} {
		wantStopped(t, r, at(api.ErrNil, 0))
	}
}
