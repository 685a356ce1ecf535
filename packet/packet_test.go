package packet

import (
	"bytes"
	"encoding/binary"
	"hash/crc32"
	"math"
	"slices"
	"testing"

	"artesian/api"
)

// The greatest number of a Session, a Block or an ID, and the most bytes of Data, as the chapter writes them.
const (
	greatest = 4294967295
	mostData = 65535
)

// notKinds are kinds that are none: those beside them, ones whose lowest byte is a kind's, and the ends of all.
var notKinds = []int{math.MinInt, -256, -255, -5, -2, -1, 0, 6, 7, 8, 255, 256, 257, 261, 1 << 32, 1<<32 + 3, math.MaxInt}

// edges are numbers about the ends of a Session, a Block or an ID, reasons about those of a Reason.
var (
	edges   = []int{math.MinInt, -greatest - 1, -1, 0, 1, greatest - 1, greatest, greatest + 1, 1 << 40, math.MaxInt}
	reasons = []int{math.MinInt, -1, 0, 1, 7, 8, 15, 16, 17, 255, 256, 257, math.MaxInt}
)

// count tells n bytes: first, first + step ..
func count(n int, first, step byte) []byte {
	b := make([]byte, n)
	for i := range b {
		b[i] = first + byte(i)*step
	}
	return b
}

// brief tells bytes, of many of them only both ends.
func brief(b []byte) []byte {
	if len(b) > 40 {
		return slices.Concat(b[:20], b[len(b)-20:])
	}
	return b
}

// number tells a number's four bytes, by the library.
func number(n int) []byte {
	return binary.BigEndian.AppendUint32(nil, uint32(n))
}

// may tells whether a packet may be, by the chapter's words.
func may(p api.Packet) bool {
	n := func(x int) bool { return x >= 0 && x <= greatest }
	some := len(p.Data) >= 1 && len(p.Data) <= mostData
	switch p.Kind {
	case 1:
		return n(p.Session) && n(p.Block) && n(p.ID) && p.Reason == 0 && some
	case 2:
		return n(p.Session) && n(p.Block) && p.ID == 0 && p.Reason == 0 && len(p.Data) == 0
	case 3:
		return n(p.Session) && p.Block == 0 && p.ID == 0 && p.Reason == 0 && len(p.Data) == 0
	case 4:
		return n(p.Session) && p.Block == 0 && p.ID == 0 && p.Reason >= 1 && p.Reason <= 15 && len(p.Data) == 0
	case 5:
		return n(p.Session) && p.Block == 0 && p.ID == 0 && p.Reason == 0 && some
	}
	return false
}

// laid tells what is ahead of the sum of a packet that may be, by the chapter's words.
func laid(p api.Packet) []byte {
	b := append([]byte{byte(p.Kind)}, number(p.Session)...)
	switch p.Kind {
	case 1:
		b = slices.Concat(b, number(p.Block), number(p.ID), p.Data)
	case 2:
		b = append(b, number(p.Block)...)
	case 4:
		b = append(b, byte(p.Reason))
	case 5:
		b = append(b, p.Data...)
	}
	return b
}

// sealed tells bytes and their sum behind them, by the library.
func sealed(b []byte) []byte {
	return binary.LittleEndian.AppendUint32(slices.Clone(b), crc32.ChecksumIEEE(b))
}

// senders tells whether a packet that may be is the sender's, by the chapter's words.
func senders(p api.Packet) bool {
	return p.Kind == 1 || p.Kind == 5 || p.Kind == 4 && p.Reason <= 7
}

// said tells the packet that bytes ahead of a sum are of, if they are one's, by the chapter's words.
func said(b []byte) (api.Packet, bool) {
	n := func(from int) int { return int(binary.BigEndian.Uint32(b[from:])) }
	if len(b) < 5 {
		return api.Packet{}, false
	}
	p := api.Packet{Kind: int(b[0]), Session: n(1)}
	switch rest := len(b) - 5; {
	case b[0] == 1 && rest > 8 && rest <= 8+mostData:
		p.Block, p.ID, p.Data = n(5), n(9), b[13:]
	case b[0] == 2 && rest == 4:
		p.Block = n(5)
	case b[0] == 3 && rest == 0:
	case b[0] == 4 && rest == 1 && b[5] >= 1 && b[5] <= 15:
		p.Reason = int(b[5])
	case b[0] == 5 && rest > 0 && rest <= mostData:
		p.Data = b[5:]
	default:
		return api.Packet{}, false
	}
	return p, true
}

// same tells whether two packets are one.
func same(a, b api.Packet) bool {
	return a.Kind == b.Kind && a.Session == b.Session && a.Block == b.Block && a.ID == b.ID && a.Reason == b.Reason && bytes.Equal(a.Data, b.Data)
}

// wantMay fails if a packet isn't one that may be, with that end and those bytes ahead of its sum.
func wantMay(t *testing.T, p api.Packet, sender bool, body []byte) {
	t.Helper()
	if got := Check(p); got != api.OK {
		t.Errorf("Check(%v): got %v, want OK", short(p), got)
	}
	if got := Size(p); got != len(body)+4 {
		t.Errorf("Size(%v): got %d, want %d", short(p), got, len(body)+4)
	}
	if got := Sends(p); got != sender {
		t.Errorf("Sends(%v): got %v, want %v", short(p), got, sender)
	}
	if got, err := Put(p); err != api.OK || !bytes.Equal(got, sealed(body)) {
		t.Errorf("Put(%v): got %d, %v, want %d", short(p), brief(got), err, brief(sealed(body)))
	}
	wantGet(t, sealed(body), p)
}

// wantNot fails if a packet is one that may be, or if beside the error something is told.
func wantNot(t *testing.T, p api.Packet) {
	t.Helper()
	if got := Check(p); got != api.ErrArg {
		t.Errorf("Check(%v): got %v, want ErrArg", short(p), got)
	}
	if got := Size(p); got != 0 {
		t.Errorf("Size(%v): got %d, want 0", short(p), got)
	}
	if Sends(p) {
		t.Errorf("Sends(%v): got true", short(p))
	}
	if got, err := Put(p); err != api.ErrArg || len(got) != 0 {
		t.Errorf("Put(%v): got %d bytes, %v, want none, ErrArg", short(p), len(got), err)
	}
}

// wantAsSaid fails if a packet isn't told of by Check, Size, Sends and Put as the chapter's words say.
func wantAsSaid(t *testing.T, p api.Packet) {
	t.Helper()
	if may(p) {
		wantMay(t, p, senders(p), laid(p))
	} else {
		wantNot(t, p)
	}
}

// wantGet fails if bytes aren't that packet's.
func wantGet(t *testing.T, b []byte, right api.Packet) {
	t.Helper()
	if got, err := Get(b); err != api.OK || !same(got, right) {
		t.Errorf("Get of %d bytes, %d: got %v, %v, want %v", len(b), brief(b), short(got), err, short(right))
	}
}

// wantRefused fails if bytes aren't refused with that error and no packet beside it.
func wantRefused(t *testing.T, b []byte, right api.Errno) {
	t.Helper()
	if got, err := Get(b); err != right || !same(got, api.Packet{}) {
		t.Errorf("Get of %d bytes, %d: got %v, %v, want none, %v", len(b), brief(b), short(got), err, right)
	}
}

// short tells a packet with little of its Data.
func short(p api.Packet) api.Packet {
	p.Data = brief(p.Data)
	return p
}

// plain tells of each kind packets as one uses them, and at the edges of what they have.
func plain() []api.Packet {
	return []api.Packet{
		{Kind: api.KindData, Session: 1, Block: 2, ID: 3, Data: []byte{9, 9}},
		{Kind: api.KindData, Data: []byte{0}},
		{Kind: api.KindData, Session: 0x01020304, Block: 0x05060708, ID: 0x090A0B0C, Data: count(64, 13, 1)},
		{Kind: api.KindData, Session: greatest, Block: greatest, ID: greatest, Data: []byte{255}},
		{Kind: api.KindAck},
		{Kind: api.KindAck, Session: 7, Block: 1 << 24},
		{Kind: api.KindAck, Session: greatest, Block: greatest},
		{Kind: api.KindDone},
		{Kind: api.KindDone, Session: 258},
		{Kind: api.KindDone, Session: greatest},
		{Kind: api.KindAbort, Reason: 1},
		{Kind: api.KindAbort, Session: 3, Reason: 7},
		{Kind: api.KindAbort, Session: 3, Reason: 8},
		{Kind: api.KindAbort, Session: greatest, Reason: 15},
		{Kind: api.KindOpen, Data: []byte{0}},
		{Kind: api.KindOpen, Session: 1 << 31, Data: count(24, 5, 3)},
		{Kind: api.KindOpen, Session: greatest, Data: []byte{255, 0, 0, 0, 0}},
	}
}

// The chapter's table of examples

func TestExamples(t *testing.T) {
	wantMay(t, api.Packet{Kind: 3, Session: 258}, false, []byte{3, 0, 0, 1, 2})
	if got := Size(api.Packet{Kind: 3, Session: 258}); got != 9 {
		t.Errorf("Size(Done of 258): got %d, want 9", got)
	}
	wantMay(t, api.Packet{Kind: 1, Session: 1, Block: 2, ID: 3, Data: []byte{9, 9}}, true, []byte{1, 0, 0, 0, 1, 0, 0, 0, 2, 0, 0, 0, 3, 9, 9})
	wantNot(t, api.Packet{Kind: 2, ID: 1})
	wantNot(t, api.Packet{Kind: 4})
	wantNot(t, api.Packet{Kind: 5})
	wantRefused(t, nil, api.ErrShort)
	wantRefused(t, []byte{1, 2, 3, 4, 5}, api.ErrSum)
	for _, x := range []struct {
		p     api.Packet
		right bool
	}{{api.Packet{Kind: 4, Reason: 7}, true}, {api.Packet{Kind: 4, Reason: 8}, false}, {api.Packet{Kind: 3}, false}} {
		if got := Sends(x.p); got != x.right {
			t.Errorf("Sends(%v): got %v", x.p, got)
		}
	}
}

// P11.1, and what Put tells by P11.2

func TestWrittenPackets(t *testing.T) {
	for _, x := range []struct {
		p      api.Packet
		sender bool
		body   []byte
	}{
		{api.Packet{Kind: 1, Session: 0x02030405, Block: 0x06070809, ID: 0x0A0B0C0D, Data: []byte{14, 15}}, true, count(15, 1, 1)},
		{api.Packet{Kind: 1, Data: []byte{0}}, true, append([]byte{1}, make([]byte, 13)...)},
		{api.Packet{Kind: 1, Session: greatest, Block: 0, ID: greatest, Data: []byte{0, 0}}, true, []byte{1, 255, 255, 255, 255, 0, 0, 0, 0, 255, 255, 255, 255, 0, 0}},
		{api.Packet{Kind: 2, Session: 0x03040506, Block: 0x0708090A}, false, []byte{2, 3, 4, 5, 6, 7, 8, 9, 10}},
		{api.Packet{Kind: 2, Session: 0, Block: greatest}, false, []byte{2, 0, 0, 0, 0, 255, 255, 255, 255}},
		{api.Packet{Kind: 3, Session: 1 << 31}, false, []byte{3, 128, 0, 0, 0}},
		{api.Packet{Kind: 4, Session: 0x05060708, Reason: 9}, false, []byte{4, 5, 6, 7, 8, 9}},
		{api.Packet{Kind: 4, Session: 256, Reason: 1}, true, []byte{4, 0, 0, 1, 0, 1}},
		{api.Packet{Kind: 4, Session: 1, Reason: 15}, false, []byte{4, 0, 0, 0, 1, 15}},
		{api.Packet{Kind: 5, Session: 0x06070809, Data: []byte{10, 11, 12}}, true, []byte{5, 6, 7, 8, 9, 10, 11, 12}},
		{api.Packet{Kind: 5, Session: 0, Data: []byte{0}}, true, []byte{5, 0, 0, 0, 0, 0}},
	} {
		wantMay(t, x.p, x.sender, x.body)
	}
}

func TestSealedPacketIsWritten(t *testing.T) {
	for _, x := range []struct {
		p     api.Packet
		right []byte
	}{
		{api.Packet{Kind: 3, Session: 258}, []byte{3, 0, 0, 1, 2, 160, 221, 151, 118}},
		{api.Packet{Kind: 2, Session: 1, Block: 2}, []byte{2, 0, 0, 0, 1, 0, 0, 0, 2, 180, 116, 145, 27}},
	} {
		if got, err := Put(x.p); err != api.OK || !bytes.Equal(got, x.right) {
			t.Errorf("Put(%v): got %d, %v, want %d", x.p, got, err, x.right)
		}
	}
}

func TestPlainPackets(t *testing.T) {
	for _, p := range plain() {
		if !may(p) {
			t.Errorf("%v is no packet that may be", p)
		}
		wantAsSaid(t, p)
	}
}

func TestKindsThatAreNone(t *testing.T) {
	for _, kind := range notKinds {
		for _, p := range plain() {
			p.Kind = kind
			wantNot(t, p)
		}
		wantNot(t, api.Packet{Kind: kind})
	}
}

func TestEachNumberAtItsEdges(t *testing.T) {
	for _, p := range plain() {
		for _, n := range edges {
			for _, q := range []api.Packet{with(p, n, p.Block, p.ID), with(p, p.Session, n, p.ID), with(p, p.Session, p.Block, n), with(p, n, n, n)} {
				wantAsSaid(t, q)
			}
		}
	}
}

// with tells a packet with other numbers.
func with(p api.Packet, session, block, id int) api.Packet {
	p.Session, p.Block, p.ID = session, block, id
	return p
}

func TestNumbersThatMayNotBe(t *testing.T) {
	for _, n := range []int{-1, greatest + 1} {
		for _, kind := range []int{1, 2, 3, 4, 5} {
			p := api.Packet{Kind: kind, Session: n}
			if kind == 1 || kind == 5 {
				p.Data = []byte{1}
			}
			if kind == 4 {
				p.Reason = 1
			}
			wantNot(t, p)
		}
		wantNot(t, api.Packet{Kind: 1, Block: n, Data: []byte{1}})
		wantNot(t, api.Packet{Kind: 1, ID: n, Data: []byte{1}})
		wantNot(t, api.Packet{Kind: 2, Block: n})
	}
}

func TestEachReasonAtItsEdges(t *testing.T) {
	for _, p := range plain() {
		for _, reason := range reasons {
			p.Reason = reason
			wantAsSaid(t, p)
		}
	}
	for reason := -20; reason < 300; reason++ {
		p := api.Packet{Kind: 4, Session: 9, Reason: reason}
		if reason >= 1 && reason <= 15 {
			wantMay(t, p, reason < 8, []byte{4, 0, 0, 0, 9, byte(reason)})
		} else {
			wantNot(t, p)
		}
	}
}

func TestDataOfEachLength(t *testing.T) {
	for _, n := range []int{0, 1, 2, 3, 4, 5, 8, 16, 255, 256, 257, 1000, 32767, 32768, 65534, 65535, 65536, 65537, 65540, 100000, 131072, 131073} {
		for _, p := range plain() {
			p.Data = count(n, 200, 3)
			wantAsSaid(t, p)
		}
	}
	wantMay(t, api.Packet{Kind: 1, Data: make([]byte, mostData)}, true, append([]byte{1}, make([]byte, 12+mostData)...))
	wantMay(t, api.Packet{Kind: 5, Data: make([]byte, mostData)}, true, append([]byte{5}, make([]byte, 4+mostData)...))
	for _, kind := range []int{1, 5} {
		wantNot(t, api.Packet{Kind: kind, Data: make([]byte, mostData+1)})
		wantNot(t, api.Packet{Kind: kind, Data: nil})
		wantNot(t, api.Packet{Kind: kind, Data: []byte{}})
		// Spare room is no Data.
		wantNot(t, api.Packet{Kind: kind, Data: make([]byte, 0, 9)})
	}
}

func TestNothingIsTheSameAsEmpty(t *testing.T) {
	for _, empty := range [][]byte{nil, {}, make([]byte, 0, 9)} {
		wantMay(t, api.Packet{Kind: 2, Session: 1, Block: 2, Data: empty}, false, []byte{2, 0, 0, 0, 1, 0, 0, 0, 2})
		wantMay(t, api.Packet{Kind: 3, Session: 1, Data: empty}, false, []byte{3, 0, 0, 0, 1})
		wantMay(t, api.Packet{Kind: 4, Session: 1, Reason: 2, Data: empty}, true, []byte{4, 0, 0, 0, 1, 2})
	}
}

func TestWhatAKindDoesNotHave(t *testing.T) {
	for _, p := range []api.Packet{
		{Kind: 1, Data: []byte{1}, Reason: 1}, {Kind: 1, Data: []byte{1}, Reason: -1}, {Kind: 1, Data: []byte{1}, Reason: 15},
		{Kind: 2, ID: 1}, {Kind: 2, ID: -1}, {Kind: 2, ID: greatest}, {Kind: 2, Reason: 1}, {Kind: 2, Reason: -1}, {Kind: 2, Data: []byte{0}},
		{Kind: 3, Block: 1}, {Kind: 3, Block: -1}, {Kind: 3, Block: greatest}, {Kind: 3, ID: 1}, {Kind: 3, Reason: 8}, {Kind: 3, Data: []byte{0}},
		{Kind: 4, Reason: 1, Block: 1}, {Kind: 4, Reason: 1, ID: 1}, {Kind: 4, Reason: 8, ID: -1}, {Kind: 4, Reason: 1, Data: []byte{0}},
		{Kind: 5, Data: []byte{1}, Block: 1}, {Kind: 5, Data: []byte{1}, ID: 1}, {Kind: 5, Data: []byte{1}, Reason: 1}, {Kind: 5, Data: []byte{1}, Reason: -1},
	} {
		wantNot(t, p)
	}
}

func TestAllEdgesTogether(t *testing.T) {
	numbers := []int{-1, 0, 1, greatest, greatest + 1}
	for kind := -1; kind <= 7; kind++ {
		for _, session := range numbers {
			for _, block := range numbers {
				for _, id := range numbers {
					for _, reason := range []int{-1, 0, 1, 7, 8, 15, 16} {
						for n := range 3 {
							wantAsSaid(t, api.Packet{Kind: kind, Session: session, Block: block, ID: id, Reason: reason, Data: count(n, 1, 1)})
						}
					}
				}
			}
		}
	}
}

// P11.2

func TestGetOfWrittenBytes(t *testing.T) {
	wantGet(t, []byte{3, 0, 0, 1, 2, 160, 221, 151, 118}, api.Packet{Kind: 3, Session: 258})
	wantGet(t, []byte{2, 0, 0, 0, 1, 0, 0, 0, 2, 180, 116, 145, 27}, api.Packet{Kind: 2, Session: 1, Block: 2})
	wantGet(t, sealed([]byte{1, 0, 0, 0, 1, 0, 0, 0, 2, 0, 0, 0, 3, 9, 9}), api.Packet{Kind: 1, Session: 1, Block: 2, ID: 3, Data: []byte{9, 9}})
	wantGet(t, sealed([]byte{4, 255, 255, 255, 255, 15}), api.Packet{Kind: 4, Session: greatest, Reason: 15})
	wantGet(t, sealed([]byte{5, 128, 0, 0, 0, 1, 2, 3}), api.Packet{Kind: 5, Session: 1 << 31, Data: []byte{1, 2, 3}})
}

func TestGetOfLittleThatWasNeverSealed(t *testing.T) {
	for n := range 4 {
		wantRefused(t, count(n, 3, 0), api.ErrShort)
		wantRefused(t, make([]byte, n), api.ErrShort)
	}
	wantRefused(t, []byte{}, api.ErrShort)
	for n := 4; n < 30; n++ {
		// Neither does it open, nor would it be a packet's: that it does not open is named first.
		wantRefused(t, count(n, 7, 1), api.ErrSum)
		for kind := range byte(7) {
			wantRefused(t, append([]byte{kind}, count(n-1, 1, 0)...), api.ErrSum)
		}
	}
}

func TestGetOfEachKindAndLength(t *testing.T) {
	for kind := range 256 {
		for n := range 20 {
			for _, body := range [][]byte{append([]byte{byte(kind)}, count(n, 1, 1)...), append([]byte{byte(kind)}, make([]byte, n)...)} {
				if p, ok := said(body); ok {
					wantGet(t, sealed(body), p)
				} else {
					wantRefused(t, sealed(body), api.ErrForm)
				}
			}
		}
	}
	wantRefused(t, sealed(nil), api.ErrForm)
}

func TestLengthsThatAPacketHas(t *testing.T) {
	for kind, right := range map[byte][]int{0: {}, 1: {14, 15, 16, 17, 18}, 2: {9}, 3: {5}, 4: {6}, 5: {6, 7, 8, 9, 10, 11, 12, 13, 14, 15, 16, 17, 18}, 6: {}, 9: {}, 255: {}} {
		for n := 1; n < 19; n++ {
			_, err := Get(sealed(append([]byte{kind}, count(n-1, 1, 0)...)))
			if slices.Contains(right, n) && err != api.OK || !slices.Contains(right, n) && err != api.ErrForm {
				t.Errorf("of the kind %d, %d bytes ahead of the sum: %v", kind, n, err)
			}
		}
	}
}

func TestGetOfEachReason(t *testing.T) {
	for reason := range 256 {
		body := []byte{4, 0, 0, 0, 2, byte(reason)}
		if reason >= 1 && reason <= 15 {
			wantGet(t, sealed(body), api.Packet{Kind: 4, Session: 2, Reason: reason})
		} else {
			wantRefused(t, sealed(body), api.ErrForm)
		}
	}
}

func TestGetOfDataAtItsEdges(t *testing.T) {
	for _, kind := range []byte{1, 5} {
		ahead := append([]byte{kind}, make([]byte, 4)...)
		if kind == 1 {
			ahead = append(ahead, make([]byte, 8)...)
		}
		wantRefused(t, sealed(ahead), api.ErrForm)
		for _, n := range []int{1, 65534, mostData} {
			wantGet(t, sealed(slices.Concat(ahead, count(n, 1, 3))), api.Packet{Kind: int(kind), Data: count(n, 1, 3)})
		}
		for _, n := range []int{mostData + 1, mostData + 2, 100000, 200000} {
			wantRefused(t, sealed(slices.Concat(ahead, count(n, 1, 3))), api.ErrForm)
		}
	}
}

func TestGetOfMoreBehindAPacket(t *testing.T) {
	for _, p := range plain() {
		if p.Kind == api.KindData || p.Kind == api.KindOpen {
			continue
		}
		for _, more := range [][]byte{{0}, {1}, {0, 0}, make([]byte, 4), count(70000, 1, 1)} {
			wantRefused(t, sealed(slices.Concat(laid(p), more)), api.ErrForm)
		}
		// Two packets, one behind the other, are none; nor is one sealed twice.
		wantRefused(t, slices.Concat(sealed(laid(p)), sealed(laid(p))), api.ErrSum)
		wantRefused(t, sealed(sealed(laid(p))), api.ErrForm)
	}
}
