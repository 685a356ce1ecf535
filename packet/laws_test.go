package packet

import (
	"bytes"
	"encoding/binary"
	"hash/crc32"
	"math/rand/v2"
	"slices"
	"testing"

	"artesian/api"
)

// behind is what stands in the spare room of what is handed in, and must be found there again.
const behind = 0x5a

// lend tells bytes with spare room behind them that is filled.
func lend(b []byte) []byte {
	whole := append(slices.Clone(b), bytes.Repeat([]byte{behind}, 24)...)
	return whole[:len(b)]
}

// touched tells whether what was lent, or its spare room, is no longer what it was.
func touched(lent, was []byte) bool {
	whole := lent[:len(lent)+24]
	return !bytes.Equal(whole[:len(lent)], was) || !bytes.Equal(whole[len(lent):], bytes.Repeat([]byte{behind}, 24))
}

// scribble writes over bytes, and over their spare room.
func scribble(b []byte) {
	for i := range b[:cap(b)] {
		b[:cap(b)][i] = 0xee
	}
}

// someBytes tells bytes, always the same ones for the same source.
func someBytes(r *rand.Rand, n int) []byte {
	b := make([]byte, n)
	for i := range b {
		b[i] = byte(r.IntN([]int{2, 256, 256}[r.IntN(3)]))
	}
	return b
}

// someNumber tells a number that a Session, Block or ID may be, a small one as often as a great one.
func someNumber(r *rand.Rand) int {
	return int(r.Uint32() >> r.IntN(33))
}

// somePacket tells a packet that may be.
func somePacket(r *rand.Rand) api.Packet {
	p := api.Packet{Kind: r.IntN(5) + 1, Session: someNumber(r)}
	switch p.Kind {
	case 1:
		p.Block, p.ID = someNumber(r), someNumber(r)
		p.Data = someBytes(r, r.IntN([]int{3, 30, 3000}[r.IntN(3)])+1)
	case 2:
		p.Block = someNumber(r)
	case 4:
		p.Reason = r.IntN(15) + 1
	case 5:
		p.Data = someBytes(r, r.IntN([]int{3, 30, 3000}[r.IntN(3)])+1)
	}
	return p
}

// turn tells bytes of which some bits are turned, of each byte the lowest first: the bit at from and those behind it, where the pattern has a 1.
func turn(b []byte, from int, pattern uint64) []byte {
	turned := slices.Clone(b)
	for i := range 64 {
		if pattern>>i&1 == 1 {
			turned[(from+i)/8] ^= 1 << ((from + i) % 8)
		}
	}
	return turned
}

// put tells a packet's bytes, which it must have.
func put(t *testing.T, p api.Packet) []byte {
	t.Helper()
	b, err := Put(p)
	if err != api.OK {
		t.Fatalf("Put(%v): %v", short(p), err)
	}
	return b
}

// P11.3: what is put is got as it was, what is got is put as it was

func TestWhatIsPutIsGot(t *testing.T) {
	source := rand.New(rand.NewPCG(1101, 1102))
	for range 20000 {
		p := somePacket(source)
		wantAsSaid(t, p)
		wantGet(t, put(t, p), p)
	}
	for _, p := range plain() {
		wantGet(t, put(t, p), p)
	}
}

func TestWhatIsGotIsPut(t *testing.T) {
	source := rand.New(rand.NewPCG(1103, 1104))
	got := 0
	for range 60000 {
		body := append([]byte{byte(source.IntN(8))}, someBytes(source, source.IntN(22))...)
		if source.IntN(20) == 0 {
			body = someBytes(source, source.IntN(3000))
		}
		right, ok := said(body)
		p, err := Get(sealed(body))
		if !ok {
			wantRefused(t, sealed(body), api.ErrForm)
			continue
		}
		got++
		if err != api.OK || !same(p, right) {
			t.Errorf("Get of %d: got %v, %v, want %v", brief(body), short(p), err, short(right))
		}
		if !bytes.Equal(put(t, p), sealed(body)) || Size(p) != len(body)+4 || Check(p) != api.OK {
			t.Errorf("%d is got, and not put as it was", brief(body))
		}
	}
	if got < 5000 {
		t.Errorf("only %d of the bytes were packets'", got)
	}
}

func TestGetOfAnyBytes(t *testing.T) {
	source := rand.New(rand.NewPCG(1105, 1106))
	for range 20000 {
		b := someBytes(source, source.IntN(40))
		switch {
		case len(b) < 4:
			wantRefused(t, b, api.ErrShort)
		case crc32.ChecksumIEEE(b[:len(b)-4]) != binary.LittleEndian.Uint32(b[len(b)-4:]):
			wantRefused(t, b, api.ErrSum)
		}
	}
}

func TestPacketsWithoutTheirEnds(t *testing.T) {
	for _, p := range plain() {
		whole := put(t, p)
		for n := range whole {
			right := api.ErrSum
			if n < 4 {
				right = api.ErrShort
			}
			wantRefused(t, whole[:n], right)
		}
		wantRefused(t, append(slices.Clone(whole), 0), api.ErrSum)
	}
}

// P11.3: of a packet's bytes with bits turned nothing is got

func TestSingleBitTurned(t *testing.T) {
	for _, p := range plain() {
		whole := put(t, p)
		for from := range len(whole) * 8 {
			wantRefused(t, turn(whole, from, 1), api.ErrSum)
			wantGet(t, turn(turn(whole, from, 1), from, 1), p)
		}
	}
}

func TestBitsTurnedWithin32InARow(t *testing.T) {
	source := rand.New(rand.NewPCG(1107, 1108))
	for _, p := range plain() {
		whole := put(t, p)
		for from := range len(whole) * 8 {
			// The last ones end where the packet's bytes end.
			for row := 2; row <= min(32, len(whole)*8-from); row++ {
				all, ends := uint64(1)<<row-1, uint64(1)<<(row-1)|1
				for _, pattern := range []uint64{all, ends, ends | source.Uint64()&all} {
					wantRefused(t, turn(whole, from, pattern), api.ErrSum)
				}
			}
		}
	}
}

func TestBitsTurnedInMuchData(t *testing.T) {
	source := rand.New(rand.NewPCG(1109, 1110))
	for _, kind := range []int{api.KindData, api.KindOpen} {
		whole := put(t, api.Packet{Kind: kind, Session: 5, Data: count(mostData, 1, 3)})
		last := len(whole)*8 - 32
		for _, from := range []int{0, 8, 40, 104, last / 2, last - 32, last, source.IntN(last), source.IntN(last)} {
			for _, pattern := range []uint64{1, 1 << 31, 1<<31 | 1, 1<<32 - 1, source.Uint64()>>32 | 1} {
				wantRefused(t, turn(whole, from, pattern), api.ErrSum)
			}
		}
	}
}

// P11.3: each packet is one end's

func TestEachPacketIsOneEnds(t *testing.T) {
	for _, x := range []struct {
		kind, reason int
		sender       bool
	}{
		{1, 0, true}, {2, 0, false}, {3, 0, false}, {5, 0, true},
		{4, 1, true}, {4, 2, true}, {4, 3, true}, {4, 4, true}, {4, 5, true}, {4, 6, true}, {4, 7, true},
		{4, 8, false}, {4, 9, false}, {4, 10, false}, {4, 11, false}, {4, 12, false}, {4, 13, false}, {4, 14, false}, {4, 15, false},
	} {
		for _, n := range []int{0, 1, 8, greatest} {
			p := api.Packet{Kind: x.kind, Reason: x.reason, Session: n}
			if x.kind == 1 || x.kind == 5 {
				p.Data = count(n%16+1, 0, 1)
			}
			if x.kind <= 2 {
				p.Block = n
			}
			if got := Sends(p); got != x.sender || Check(p) != api.OK {
				t.Errorf("Sends(%v): got %v, want %v", p, got, x.sender)
			}
			got, err := Get(put(t, p))
			if err != api.OK || Sends(got) != x.sender {
				t.Errorf("%v, put and got: %v, sender's %v, want %v", p, err, Sends(got), x.sender)
			}
		}
	}
}

// Rule 4: an answer is new memory, and what was handed in stays as it was and is not kept

func TestPutTouchesNoData(t *testing.T) {
	for _, n := range []int{0, 1, 2, 8, 9, 1000, mostData, mostData + 1} {
		for _, p := range plain() {
			b := count(n, 3, 7)
			p.Data = b
			right, err := Put(p)
			lent := lend(b)
			p.Data = lent
			Check(p)
			Size(p)
			Sends(p)
			got, _ := Put(p)
			scribble(got)
			if touched(lent, b) {
				t.Errorf("Put of %d bytes of Data changed or handed out them", n)
			}
			again, _ := Put(p)
			scribble(lent)
			if err == api.OK && !bytes.Equal(again, right) {
				t.Errorf("Put of %d bytes of Data kept them", n)
			}
		}
	}
}

func TestGetTouchesNoBytes(t *testing.T) {
	for _, p := range plain() {
		whole := put(t, p)
		lent := lend(whole)
		got, _ := Get(lent)
		scribble(got.Data)
		if touched(lent, whole) {
			t.Errorf("Get of %v's bytes changed or handed out them", p)
		}
		again, err := Get(lent)
		scribble(lent)
		if err != api.OK || !same(again, p) {
			t.Errorf("Get of %v's bytes kept them", p)
		}
	}
}

func TestGetTouchesNoBytesThatItRefuses(t *testing.T) {
	for _, body := range [][]byte{nil, {3}, {9, 0, 0, 0, 1}, {3, 0, 0, 0, 1, 0}, {4, 0, 0, 0, 1, 0}, {5, 0, 0, 0, 1}, count(70000, 1, 0)} {
		for _, b := range [][]byte{sealed(body), turn(sealed(body), 3, 1), sealed(body)[:3]} {
			lent := lend(b)
			_, err := Get(lent)
			if err == api.OK || touched(lent, b) {
				t.Errorf("Get of %d: %v, or changed what it was given", brief(b), err)
			}
			scribble(lent)
			wantGet(t, sealed([]byte{3, 0, 0, 0, 1}), api.Packet{Kind: 3, Session: 1})
		}
	}
}

func TestAnswersShareNothing(t *testing.T) {
	for _, p := range plain() {
		one, two := put(t, p), put(t, p)
		right := slices.Clone(two)
		scribble(one)
		if !bytes.Equal(two, right) {
			t.Errorf("two answers of Put(%v) share memory", p)
		}
		first, _ := Get(right)
		second, _ := Get(right)
		scribble(first.Data)
		if !same(second, p) {
			t.Errorf("two answers of Get of %v's bytes share memory", p)
		}
		wantGet(t, right, p)
		scribble(two)
		if !bytes.Equal(put(t, p), right) {
			t.Errorf("what Put(%v) told was changed, and so is what it tells", p)
		}
	}
}
