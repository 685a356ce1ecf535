package digits

import (
	"bytes"
	"math"
	"slices"
	"strings"
	"testing"

	"artesian/api"
	"artesian/limbs"
	"artesian/signed"
)

// top is the greatest digit, half the one of which only the highest bit is 1.
const (
	top  = math.MaxUint64
	half = 1 << 63
)

// full tells a list of so many of the same digit.
func full(x uint64, count int) api.Nat {
	return slices.Repeat(api.Nat{x}, count)
}

// raw tells a whole number over a small one just as they are, whether that is a fraction or none.
func raw(up int, down uint64) api.Ratio {
	return api.Ratio{Up: signed.Of(up), Down: limbs.Of(down)}
}

// long tells digits over digits just as they are.
func long(below bool, up, down api.Nat) api.Ratio {
	return api.Ratio{Up: api.Int{Below: below, N: up}, Down: down}
}

// nones tells what is no fraction, of all kinds.
func nones() []api.Ratio {
	one := api.Nat{1}
	return []api.Ratio{
		{},
		// over 0
		raw(0, 0), raw(1, 0), raw(-1, 0), long(false, one, api.Nat{0}), long(false, full(top, 9), full(0, 9)),
		// not in lowest terms
		raw(2, 4), raw(-2, 4), raw(2, 2), raw(6, 3), raw(math.MinInt, half), long(false, full(top, 4), full(top, 2)), long(true, api.Nat{0, 1}, api.Nat{2}),
		// 0 over more than 1
		raw(0, 2), raw(0, top), long(false, api.Nat{}, full(top, 9)),
		// highest digits of 0
		long(false, api.Nat{0}, one), long(false, api.Nat{1, 0}, one), long(true, api.Nat{1, 0}, api.Nat{2}), long(false, one, api.Nat{1, 0}), long(true, api.Nat{3}, api.Nat{2, 0, 0}), long(false, nil, api.Nat{1, 0}),
		// below 0 with an N of 0
		long(true, nil, one), long(true, api.Nat{}, one), long(true, api.Nat{0}, one), long(true, nil, nil),
	}
}

// same tells whether two fractions are the same, field by field.
func same(a, b api.Ratio) bool {
	return a.Up.Below == b.Up.Below && slices.Equal(a.Up.N, b.Up.N) && slices.Equal(a.Down, b.Down)
}

// brief tells a text, of a long one only both ends.
func brief(s string) string {
	if len(s) <= 60 {
		return s
	}
	return s[:30] + ".." + s[len(s)-30:]
}

// wantPut fails if a number's digits aren't these.
func wantPut(t *testing.T, n api.Nat, right string) {
	t.Helper()
	if s := Put(n); s != right {
		t.Errorf("Put(%v): got %d bytes, %s, want %d, %s", n, len(s), brief(s), len(right), brief(right))
	}
}

// wantGet fails if these digits aren't that number's.
func wantGet(t *testing.T, s string, right api.Nat) {
	t.Helper()
	if n, f := Get(s); f != (api.Fault{}) || !slices.Equal(n, right) {
		t.Errorf("Get(%s): got %v, %v, want %v", brief(s), n, f, right)
	}
}

// wantGetFault fails if a text isn't refused just so, with no number beside it.
func wantGetFault(t *testing.T, s string, err api.Errno, at int) {
	t.Helper()
	if n, f := Get(s); f != (api.Fault{Err: err, At: at}) || len(n) != 0 {
		t.Errorf("Get(%q), of %d bytes: got %v, %v, want %v at %d", brief(s), len(s), n, f, err, at)
	}
}

// wantBytes fails if a number's bytes aren't these.
func wantBytes(t *testing.T, n api.Nat, right []byte) {
	t.Helper()
	if b := Bytes(n); !bytes.Equal(b, right) {
		t.Errorf("Bytes(%v): got %v, want %v", n, b, right)
	}
}

// wantFromBytes fails if these bytes aren't that number's.
func wantFromBytes(t *testing.T, b []byte, right api.Nat) {
	t.Helper()
	if n, e := FromBytes(b); e != api.OK || !slices.Equal(n, right) {
		t.Errorf("FromBytes(%v): got %v, %v, want %v", b, n, e, right)
	}
}

// wantFromBytesErr fails if bytes aren't refused just so, with no number beside it.
func wantFromBytesErr(t *testing.T, b []byte, right api.Errno) {
	t.Helper()
	if n, e := FromBytes(b); e != right || len(n) != 0 {
		t.Errorf("FromBytes of %d bytes: got %v, %v, want %v", len(b), n, e, right)
	}
}

// wantText fails if a fraction's text isn't this one.
func wantText(t *testing.T, r api.Ratio, right string) {
	t.Helper()
	if s, e := Text(r); e != api.OK || s != right {
		t.Errorf("Text(%v): got %s, %v, want %s", r, brief(s), e, brief(right))
	}
}

// wantRead fails if a text isn't that fraction's.
func wantRead(t *testing.T, s string, right api.Ratio) {
	t.Helper()
	if r, f := Read(s); f != (api.Fault{}) || !same(r, right) {
		t.Errorf("Read(%s): got %v, %v, want %v", brief(s), r, f, right)
	}
}

// wantReadFault fails if a text isn't refused just so, with no fraction beside it.
func wantReadFault(t *testing.T, s string, err api.Errno, at int) {
	t.Helper()
	if r, f := Read(s); f != (api.Fault{Err: err, At: at}) || !same(r, api.Ratio{}) {
		t.Errorf("Read(%q), of %d bytes: got %v, %v, want %v at %d", brief(s), len(s), r, f, err, at)
	}
}

// The chapter's table of examples

func TestExamplesOfDigits(t *testing.T) {
	wantPut(t, nil, "0")
	wantPut(t, api.Nat{0, 1}, "18446744073709551616")
	wantGet(t, "18446744073709551616", api.Nat{0, 1})
	wantGetFault(t, "007", api.ErrForm, 1)
	wantGetFault(t, "", api.ErrForm, 0)
	wantGetFault(t, "1a", api.ErrForm, 1)
}

func TestExamplesOfBytes(t *testing.T) {
	wantBytes(t, api.Nat{258}, []byte{1, 2})
	wantBytes(t, nil, nil)
	wantFromBytes(t, []byte{1, 2}, api.Nat{258})
	wantFromBytesErr(t, []byte{0, 1}, api.ErrForm)
	wantFromBytes(t, nil, nil)
}

func TestExamplesOfTexts(t *testing.T) {
	wantText(t, raw(-3, 4), "-3/4")
	wantText(t, raw(5, 1), "5")
	wantRead(t, "-3/4", raw(-3, 4))
	for _, s := range []string{"6/8", "5/1", "-0", "3/"} {
		wantReadFault(t, s, api.ErrForm, 0)
	}
}

// P6.1

func TestDigitsOfNumbers(t *testing.T) {
	for _, x := range []struct {
		n api.Nat
		s string
	}{
		{nil, "0"}, {api.Nat{}, "0"}, {api.Nat{1}, "1"}, {api.Nat{7}, "7"}, {api.Nat{9}, "9"}, {api.Nat{10}, "10"}, {api.Nat{42}, "42"}, {api.Nat{99}, "99"}, {api.Nat{100}, "100"}, {api.Nat{1234567890}, "1234567890"},
		// where groups of nineteen digits end
		{api.Nat{999999999999999999}, "999999999999999999"}, {api.Nat{1000000000000000000}, "1000000000000000000"}, {api.Nat{9999999999999999999}, "9999999999999999999"}, {api.Nat{10000000000000000000}, "10000000000000000000"}, {api.Nat{10000000000000000001}, "10000000000000000001"}, {api.Nat{10000000000000000010}, "10000000000000000010"}, {api.Nat{11000000000000000000}, "11000000000000000000"},
		{api.Nat{687399551400673279, 5421010862427522170}, "99999999999999999999999999999999999999"}, {api.Nat{687399551400673280, 5421010862427522170}, "100000000000000000000000000000000000000"}, {api.Nat{687399551400673281, 5421010862427522170}, "100000000000000000000000000000000000001"},
		// where digits of 64 bits end
		{api.Nat{half}, "9223372036854775808"}, {api.Nat{top}, "18446744073709551615"}, {api.Nat{0, 1}, "18446744073709551616"}, {api.Nat{1, 1}, "18446744073709551617"}, {api.Nat{top, top}, "340282366920938463463374607431768211455"}, {api.Nat{0, 0, 1}, "340282366920938463463374607431768211456"}, {api.Nat{0, 0, 0, 1}, "6277101735386680763835789423207666416102355444464034512896"},
	} {
		wantPut(t, x.n, x.s)
		wantGet(t, x.s, x.n)
		for _, noughts := range []int{1, 2, 9} {
			wantPut(t, append(slices.Clone(x.n), full(0, noughts)...), x.s)
		}
	}
	wantPut(t, full(0, 1), "0")
	wantPut(t, full(0, 50), "0")
}

// One digit more begins at each power of ten.
func TestPowersOfTen(t *testing.T) {
	power := limbs.Of(1)
	for noughts := range 400 {
		right := "1" + strings.Repeat("0", noughts)
		wantPut(t, power, right)
		wantGet(t, right, power)
		above := limbs.Add(power, limbs.Of(1))
		wantGet(t, Put(above), above)
		below, _ := limbs.Sub(power, limbs.Of(1))
		right = "0"
		if noughts > 0 {
			right = strings.Repeat("9", noughts)
		}
		wantPut(t, below, right)
		wantGet(t, right, below)
		twice := limbs.Add(power, power)
		power = limbs.Add(limbs.Add(limbs.Add(twice, twice), limbs.Add(twice, twice)), twice)
	}
}

func TestGetUpToTheLimit(t *testing.T) {
	for _, size := range []int{18, 19, 20, 37, 38, 39, 9998, 9999, 10000} {
		for _, s := range []string{strings.Repeat("9", size), "1" + strings.Repeat("0", size-1), strings.Repeat("1", size)} {
			n, f := Get(s)
			if f != (api.Fault{}) || limbs.Check(n) != api.OK || Put(n) != s {
				t.Errorf("Get(%s), of %d bytes: %v, told again as %s", brief(s), size, f, brief(Put(n)))
			}
		}
	}
}

func TestGetRefusesWhatIsLong(t *testing.T) {
	for _, size := range []int{10001, 10002, 20000, 1 << 20} {
		// Too long is told ahead of all that is wrong in a text.
		for _, c := range []string{"1", "0", "a", "-", "/", "\x00", "\xff"} {
			wantGetFault(t, strings.Repeat(c, size), api.ErrLong, 10000)
		}
		wantGetFault(t, strings.Repeat("1", size-1)+"x", api.ErrLong, 10000)
		wantGetFault(t, "x"+strings.Repeat("1", size-1), api.ErrLong, 10000)
	}
}

func TestGetRefusesWhatIsNoDigit(t *testing.T) {
	for _, size := range []int{1, 2, 3, 18, 19, 20, 21, 38, 39, 57, 1000, 10000} {
		for _, bad := range []byte{'-', '+', '/', ':', ' ', 'a', 'x', '.', '_', ',', 0, 9, 10, 127, 128, 0xb2, 0xff} {
			for _, at := range []int{0, size / 2, size - 1} {
				s := bytes.Repeat([]byte{'1'}, size)
				s[at] = bad
				wantGetFault(t, string(s), api.ErrForm, at)
				// Only the first one is told.
				s[size-1] = '?'
				wantGetFault(t, string(s), api.ErrForm, at)
			}
		}
	}
	// Each byte but ten is none.
	for c := range 256 {
		digit := '0' <= c && c <= '9'
		_, f := Get("12" + string([]byte{byte(c)}) + "4")
		if digit != (f == api.Fault{}) || !digit && f != (api.Fault{Err: api.ErrForm, At: 2}) {
			t.Errorf("a byte %d in the middle: %v", c, f)
		}
	}
	for s, at := range map[string]int{"-1": 0, "+1": 0, "1-": 1, "1 ": 1, " 1": 0, "1_000": 1, "0x10": 1, "1e3": 1, "-": 0, "1/2": 1, "1\n": 1, "\u0661": 0, "1\u0661": 1, "\uff11": 0, "0a": 1, "0-": 1, "0/": 1} {
		wantGetFault(t, s, api.ErrForm, at)
	}
}

func TestGetRefusesNoughtsAhead(t *testing.T) {
	wantGet(t, "0", nil)
	for _, s := range []string{"00", "01", "09", "000", "007", "010", "0123456789", "0" + strings.Repeat("1", 19), strings.Repeat("0", 19), strings.Repeat("0", 20), strings.Repeat("0", 10000), "0" + strings.Repeat("9", 9999)} {
		wantGetFault(t, s, api.ErrForm, 1)
	}
	// A byte that is no digit is named ahead of these.
	wantGetFault(t, "00a", api.ErrForm, 2)
	wantGetFault(t, "007a", api.ErrForm, 3)
	wantGetFault(t, strings.Repeat("0", 9999)+"a", api.ErrForm, 9999)
	wantGetFault(t, strings.Repeat("0", 10001), api.ErrLong, 10000)
}

// P6.2

func TestBytesOfNumbers(t *testing.T) {
	for _, x := range []struct {
		n api.Nat
		b []byte
	}{
		{nil, nil}, {api.Nat{}, []byte{}}, {api.Nat{1}, []byte{1}}, {api.Nat{127}, []byte{127}}, {api.Nat{128}, []byte{128}}, {api.Nat{255}, []byte{255}}, {api.Nat{256}, []byte{1, 0}}, {api.Nat{258}, []byte{1, 2}}, {api.Nat{65535}, []byte{255, 255}}, {api.Nat{65536}, []byte{1, 0, 0}},
		{api.Nat{0x0102030405060708}, []byte{1, 2, 3, 4, 5, 6, 7, 8}}, {api.Nat{0x02030405060708}, []byte{2, 3, 4, 5, 6, 7, 8}}, {api.Nat{half}, []byte{128, 0, 0, 0, 0, 0, 0, 0}}, {api.Nat{top}, []byte{255, 255, 255, 255, 255, 255, 255, 255}},
		{api.Nat{0, 1}, []byte{1, 0, 0, 0, 0, 0, 0, 0, 0}}, {api.Nat{0x0203040506070809, 1}, []byte{1, 2, 3, 4, 5, 6, 7, 8, 9}}, {api.Nat{0x0304050607080910, 0x0102}, []byte{1, 2, 3, 4, 5, 6, 7, 8, 9, 16}}, {api.Nat{0, half}, append([]byte{128}, make([]byte, 15)...)}, {api.Nat{0, 0, 1}, append([]byte{1}, make([]byte, 16)...)},
		{full(top, 40), bytes.Repeat([]byte{255}, 320)},
	} {
		wantBytes(t, x.n, x.b)
		wantFromBytes(t, x.b, x.n)
		for _, noughts := range []int{1, 2, 9} {
			wantBytes(t, append(slices.Clone(x.n), full(0, noughts)...), x.b)
		}
	}
	wantBytes(t, full(0, 1), nil)
	wantBytes(t, full(0, 50), nil)
}

// Bytes has no limit, though FromBytes has one.
func TestBytesOfLongNumbers(t *testing.T) {
	wantBytes(t, full(top, 1250), bytes.Repeat([]byte{255}, 10000))
	wantBytes(t, append(full(0, 1250), 1), append([]byte{1}, make([]byte, 10000)...))
	wantBytes(t, full(top, 5000), bytes.Repeat([]byte{255}, 40000))
}

func TestFromBytesUpToTheLimit(t *testing.T) {
	wantFromBytes(t, bytes.Repeat([]byte{255}, 10000), full(top, 1250))
	wantFromBytes(t, append([]byte{1}, make([]byte, 9999)...), append(full(0, 1249), 1<<56))
	wantFromBytes(t, append([]byte{1}, make([]byte, 9992)...), append(full(0, 1249), 1))
	for _, size := range []int{10001, 10002, 20000} {
		wantFromBytesErr(t, bytes.Repeat([]byte{255}, size), api.ErrLong)
		// Too long is told ahead of a first byte of 0.
		wantFromBytesErr(t, make([]byte, size), api.ErrLong)
	}
}

func TestFromBytesRefusesNoughtsAhead(t *testing.T) {
	for _, b := range [][]byte{{0}, {0, 0}, {0, 1}, {0, 255}, {0, 0, 0, 0, 0, 0, 0, 0, 1}, {0, 1, 2, 3, 4, 5, 6, 7, 8}, make([]byte, 10000), append([]byte{0}, bytes.Repeat([]byte{255}, 9999)...)} {
		wantFromBytesErr(t, b, api.ErrForm)
	}
}

// P6.3

func TestTextsOfFractions(t *testing.T) {
	for _, x := range []struct {
		r api.Ratio
		s string
	}{
		{raw(0, 1), "0"}, {long(false, api.Nat{}, api.Nat{1}), "0"}, {raw(1, 1), "1"}, {raw(-1, 1), "-1"}, {raw(5, 1), "5"}, {raw(-10, 1), "-10"}, {raw(1, 2), "1/2"}, {raw(-1, 2), "-1/2"}, {raw(3, 2), "3/2"}, {raw(-7, 10), "-7/10"}, {raw(10, 7), "10/7"}, {raw(1, 10), "1/10"}, {raw(1, 11), "1/11"}, {raw(100, 101), "100/101"},
		{raw(math.MinInt, 1), "-9223372036854775808"}, {raw(1, top), "1/18446744073709551615"}, {long(true, api.Nat{0, 1}, api.Nat{3}), "-18446744073709551616/3"}, {long(true, api.Nat{3}, api.Nat{0, 1}), "-3/18446744073709551616"}, {long(false, api.Nat{0, 1}, api.Nat{1}), "18446744073709551616"},
		// A Down of more than a digit isn't 1, though its lowest one may be.
		{long(false, api.Nat{1}, api.Nat{1, 1}), "1/18446744073709551617"},
	} {
		wantText(t, x.r, x.s)
		wantRead(t, x.s, x.r)
	}
}

func TestTextRefusesNones(t *testing.T) {
	for _, r := range nones() {
		if s, e := Text(r); s != "" || e != api.ErrForm {
			t.Errorf("Text(%v): %q, %v", r, s, e)
		}
	}
}

func TestReadRefusesWhatIsNoText(t *testing.T) {
	for _, s := range []string{
		"", "-", "/", "-/", "+", "a", " ",
		// not in lowest terms
		"2/4", "-2/4", "6/8", "2/2", "6/3", "-6/3", "0/2", "0/7", "18446744073709551616/2", "100000000000000000000/10",
		// over 1, over 0
		"5/1", "-5/1", "0/1", "1/1", "1/0", "-1/0", "0/0", "5/0",
		// minus 0
		"-0", "-0/1", "-0/2", "-00",
		// nothing ahead of, or behind the stroke
		"3/", "-3/", "/3", "-/3", "0/",
		// two strokes
		"1/2/3", "1//2", "1/2/", "/1/2", "//", "1/2/3/4", "-1/2/3", "5/7/1",
		// signs where none is
		"+1", "--1", "1/-2", "-1/-2", "1-", "1/2-", "1/+2", "-+1", "+-1", "1-/2", "−1",
		// noughts ahead
		"00", "01", "-01", "01/2", "1/02", "1/00", "-1/02",
		// other bytes
		" 1", "1 ", "1 /2", "1/ 2", "- 1", "1a", "a1", "1/2a", "1/a", "1\\2", "1.5", "0.5", "1e2", "0x1", "1/2\n", "1\x00", "\xff", "1:2", "1⁄2", "½",
	} {
		wantReadFault(t, s, api.ErrForm, 0)
	}
	for _, size := range []int{20, 39, 10000} {
		wantReadFault(t, strings.Repeat("1", size-1)+"a", api.ErrForm, 0)
		wantReadFault(t, strings.Repeat("-", size), api.ErrForm, 0)
		wantReadFault(t, strings.Repeat("/", size), api.ErrForm, 0)
		wantReadFault(t, strings.Repeat("1/", size/2), api.ErrForm, 0)
		wantReadFault(t, strings.Repeat("0", size), api.ErrForm, 0)
		wantReadFault(t, strings.Repeat("1", size-2)+"/1", api.ErrForm, 0)
		wantReadFault(t, strings.Repeat("2", size-2)+"/2", api.ErrForm, 0)
	}
}

func TestReadUpToTheLimit(t *testing.T) {
	whole := strings.Repeat("9", 10000)
	for _, s := range []string{whole, "-" + whole[1:], "1/" + whole[2:], "-1/" + whole[3:], whole[2:] + "/2", whole[:5000] + "/1" + strings.Repeat("0", 4998)} {
		if len(s) != 10000 {
			t.Fatal("this isn't just as long as may be")
		}
		r, f := Read(s)
		if told, e := Text(r); f != (api.Fault{}) || e != api.OK || told != s {
			t.Errorf("Read(%s): %v, told again as %s, %v", brief(s), f, brief(told), e)
		}
	}
	for _, s := range []string{whole + "9", "-" + whole, "1/" + whole[1:], "1" + whole + "a", strings.Repeat("0", 10001), strings.Repeat("/", 10001), strings.Repeat("-", 20000), strings.Repeat("\xff", 1<<20)} {
		wantReadFault(t, s, api.ErrLong, 10000)
	}
}

// Text has no limit, though Read has one.
func TestTextsOfLongFractions(t *testing.T) {
	digits := strings.Repeat("9", 10000)
	n, f := Get(digits)
	if f != (api.Fault{}) {
		t.Fatal(f)
	}
	next := limbs.Add(n, limbs.Of(1))
	power := "1" + strings.Repeat("0", 10000)
	wantText(t, long(false, n, next), digits+"/"+power)
	wantText(t, long(true, next, n), "-"+power+"/"+digits)
	wantText(t, long(true, next, api.Nat{1}), "-"+power)
}
