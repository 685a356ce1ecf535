package digits

import (
	"bytes"
	"cmp"
	"encoding/binary"
	"math/big"
	"math/rand/v2"
	"regexp"
	"slices"
	"strings"
	"testing"

	"artesian/api"
	"artesian/limbs"
	"artesian/ratio"
	"artesian/signed"
)

// toBig tells a natural number by the library's type for it.
func toBig(n api.Nat) *big.Int {
	var b []byte
	for _, x := range slices.Backward(n) {
		b = binary.BigEndian.AppendUint64(b, x)
	}
	return new(big.Int).SetBytes(b)
}

// toRat tells a fraction by the library's type for it.
func toRat(r api.Ratio) *big.Rat {
	x := new(big.Rat).SetFrac(toBig(r.Up.N), toBig(r.Down))
	if r.Up.Below {
		x.Neg(x)
	}
	return x
}

// someNat tells a number of at most so many digits, many of them 0, near the greatest or near powers of ten.
func someNat(r *rand.Rand, most int) api.Nat {
	n := make(api.Nat, r.IntN(most+1))
	for i := range n {
		n[i] = []uint64{0, top - r.Uint64N(3), groupBase - 1 + r.Uint64N(3), r.Uint64(), r.Uint64N(4)}[r.IntN(5)]
	}
	return limbs.Trim(n)
}

// someNats tells numbers, always the same ones, the edges first.
func someNats(count, most int) []api.Nat {
	r := rand.New(rand.NewPCG(61, 62))
	all := []api.Nat{nil, {1}, {9}, {10}, {255}, {256}, {groupBase - 1}, {groupBase}, {groupBase + 1}, {top}, {0, 1}, {1, 1}, {top, top}, {0, 0, 1}}
	for len(all) < count {
		all = append(all, someNat(r, most))
	}
	return all
}

// someRatios tells fractions on both sides of 0, always the same ones, the edges first.
func someRatios(count int) []api.Ratio {
	r := rand.New(rand.NewPCG(63, 64))
	all := []api.Ratio{raw(0, 1), raw(1, 1), raw(-1, 1), raw(1, 2), raw(-1, 2), raw(2, 1), raw(-3, 2), raw(-1<<63, 1), raw(1, half), raw(-1, top)}
	for len(all) < count {
		down := limbs.Add(someNat(r, 4), limbs.Of(1))
		made, _ := ratio.Make(signed.Make(r.IntN(2) == 1, someNat(r, 4)), down)
		all = append(all, made)
	}
	return all
}

// P6.1 to P6.3, against the library

func TestSmallNumbersAgreeWithLibrary(t *testing.T) {
	for x := range uint64(20000) {
		n := limbs.Of(x)
		right := new(big.Int).SetUint64(x)
		wantPut(t, n, right.String())
		wantGet(t, right.String(), n)
		wantBytes(t, n, right.Bytes())
		wantFromBytes(t, right.Bytes(), n)
	}
}

func TestNumbersAgreeWithLibrary(t *testing.T) {
	for _, n := range someNats(3000, 12) {
		right := toBig(n)
		wantPut(t, n, right.String())
		wantGet(t, right.String(), n)
		wantBytes(t, n, right.Bytes())
		wantFromBytes(t, right.Bytes(), n)
	}
}

func TestLongNumbersAgreeWithLibrary(t *testing.T) {
	r := rand.New(rand.NewPCG(65, 66))
	for size := 1; size <= 3000; size += 1 + size/4 {
		n := make(api.Nat, size)
		for i := range n {
			n[i] = r.Uint64()
		}
		n[size-1] |= 1
		wantPut(t, n, toBig(n).String())
		wantBytes(t, n, toBig(n).Bytes())
	}
}

func TestDigitsAgreeWithLibrary(t *testing.T) {
	r := rand.New(rand.NewPCG(67, 68))
	for range 2000 {
		s := []byte{byte('1' + r.IntN(9))}
		for range r.IntN(300) {
			s = append(s, "0012345678999"[r.IntN(13)])
		}
		n, f := Get(string(s))
		right, _ := new(big.Int).SetString(string(s), 10)
		if f != (api.Fault{}) || limbs.Check(n) != api.OK || toBig(n).Cmp(right) != 0 {
			t.Errorf("Get(%s): %v, %v", s, n, f)
		}
	}
}

func TestFractionsAgreeWithLibrary(t *testing.T) {
	for _, r := range someRatios(2000) {
		right := toRat(r).RatString()
		wantText(t, r, right)
		wantRead(t, right, r)
	}
}

// Every short text, judged by the chapter's words

// words tells each text of at most so many of the alphabet's bytes.
func words(alphabet string, most int, yield func(s string)) {
	yield("")
	if most == 0 {
		return
	}
	for i := range len(alphabet) {
		words(alphabet, most-1, func(s string) {
			// Each text is told once: by its first byte, and what is behind.
			yield(alphabet[i:i+1] + s)
		})
	}
}

// getFault tells what is wrong with a text as digits.
func getFault(s string) api.Fault {
	if at := regexp.MustCompile(`[^0-9]`).FindStringIndex(s); at != nil {
		return api.Fault{Err: api.ErrForm, At: at[0]}
	}
	if s == "" {
		return api.Fault{Err: api.ErrForm, At: 0}
	}
	if s != "0" && s[0] == '0' {
		return api.Fault{Err: api.ErrForm, At: 1}
	}
	return api.Fault{}
}

func TestGetOfEveryShortText(t *testing.T) {
	words("0159-/a:", 5, func(s string) {
		n, f := Get(s)
		right := getFault(s)
		if f != right || right != (api.Fault{}) && len(n) != 0 {
			t.Errorf("Get(%q): %v, %v, want %v", s, n, f, right)
		}
		if right == (api.Fault{}) && Put(n) != s {
			t.Errorf("Get(%q): %v, told again as %s", s, n, Put(n))
		}
	})
}

func TestReadOfEveryShortText(t *testing.T) {
	form := regexp.MustCompile(`^-?[0-9]+(/[0-9]+)?$`)
	words("0124-/+", 6, func(s string) {
		r, f := Read(s)
		right, is := new(big.Rat), false
		if form.MatchString(s) {
			// The library reads more than one text of a fraction, but tells just one.
			if _, ok := right.SetString(s); ok {
				is = right.RatString() == s
			}
		}
		switch {
		case is && (f != (api.Fault{}) || ratio.Check(r) != api.OK || toRat(r).Cmp(right) != 0):
			t.Errorf("Read(%q): %v, %v", s, r, f)
		case !is && (f != (api.Fault{Err: api.ErrForm}) || !same(r, api.Ratio{})):
			t.Errorf("Read(%q), which is no text: %v, %v", s, r, f)
		}
	})
}

func TestFromBytesOfEveryShortList(t *testing.T) {
	words("\x00\x01\x80\xff", 6, func(s string) {
		n, e := FromBytes([]byte(s))
		if s != "" && s[0] == 0 {
			wantFromBytesErr(t, []byte(s), api.ErrForm)
			return
		}
		if e != api.OK || limbs.Check(n) != api.OK || !bytes.Equal(Bytes(n), []byte(s)) {
			t.Errorf("FromBytes(%v): %v, %v, told again as %v", []byte(s), n, e, Bytes(n))
		}
	})
}

// P1: texts and bytes of any kind are answered, and what is read is told as it was.
func TestAnyBytesAreAnswered(t *testing.T) {
	r := rand.New(rand.NewPCG(69, 70))
	kinds := []string{"0123456789", "0123456789/", "-/0123456789", "09-/\x00\xff +a"}
	for range 20000 {
		kind := kinds[r.IntN(len(kinds))]
		b := make([]byte, r.IntN(50))
		for i := range b {
			b[i] = kind[r.IntN(len(kind))]
			if r.IntN(100) == 0 {
				b[i] = byte(r.Uint32())
			}
		}
		s := string(b)
		if n, f := Get(s); f == (api.Fault{}) {
			wantPut(t, n, s)
		} else if f != getFault(s) || len(n) != 0 {
			t.Errorf("Get(%q): %v, %v", s, n, f)
		}
		if x, f := Read(s); f == (api.Fault{}) {
			wantText(t, x, s)
		} else if f != (api.Fault{Err: api.ErrForm}) || !same(x, api.Ratio{}) {
			t.Errorf("Read(%q): %v, %v", s, x, f)
		}
		if n, e := FromBytes(b); e == api.OK {
			wantBytes(t, n, b)
		} else if e != api.ErrForm || b[0] != 0 || len(n) != 0 {
			t.Errorf("FromBytes(%v): %v, %v", b, n, e)
		}
	}
}

// P6.4

func TestWhatIsToldIsReadAsItWas(t *testing.T) {
	for _, n := range someNats(600, 60) {
		wantGet(t, Put(n), n)
		wantFromBytes(t, Bytes(n), n)
	}
	for _, r := range someRatios(600) {
		s, e := Text(r)
		if e != api.OK {
			t.Errorf("Text(%v): %v", r, e)
		}
		wantRead(t, s, r)
	}
}

// A number is a fraction over 1, with the same text.
func TestNumbersAreFractions(t *testing.T) {
	for _, n := range someNats(200, 8) {
		r := long(false, n, api.Nat{1})
		wantText(t, r, Put(n))
		wantRead(t, Put(n), r)
	}
}

// byLength compares by how long both are, and as long ones byte by byte.
func byLength(a, b string) int {
	return cmp.Or(cmp.Compare(len(a), len(b)), strings.Compare(a, b))
}

func TestOrderIsThatOfDigitsAndOfBytes(t *testing.T) {
	all := someNats(200, 6)
	for _, a := range all {
		for _, b := range []api.Nat{limbs.Add(a, limbs.Of(1)), limbs.Add(a, a)} {
			wantOrder(t, a, b)
		}
		for _, b := range all {
			wantOrder(t, a, b)
		}
	}
}

// wantOrder fails if two numbers aren't in the order of their digits and of their bytes.
func wantOrder(t *testing.T, a, b api.Nat) {
	t.Helper()
	right := limbs.Cmp(a, b)
	if c := byLength(Put(a), Put(b)); c != right {
		t.Errorf("%v and %v: %d, their digits: %d", a, b, right, c)
	}
	if c := byLength(string(Bytes(a)), string(Bytes(b))); c != right {
		t.Errorf("%v and %v: %d, their bytes: %d", a, b, right, c)
	}
}

func TestOneDigitBehindIsTenTimesThat(t *testing.T) {
	for _, n := range someNats(400, 20) {
		if len(n) == 0 {
			// Behind 0 alone no digit may stand.
			continue
		}
		twice := limbs.Add(n, n)
		four := limbs.Add(twice, twice)
		ten := limbs.Add(limbs.Add(four, four), twice)
		for d := range uint64(10) {
			behind := string(rune('0' + d))
			more := limbs.Add(ten, limbs.Of(d))
			wantGet(t, Put(n)+behind, more)
			wantPut(t, more, Put(n)+behind)
		}
	}
}

func TestOneByteBehindIsTwoHundredFiftySixTimesThat(t *testing.T) {
	for _, n := range someNats(400, 20) {
		if len(n) == 0 {
			continue
		}
		for _, x := range []byte{0, 1, 127, 128, 255} {
			up, _ := limbs.Up(n, 8)
			more := limbs.Add(up, limbs.Of(uint64(x)))
			wantFromBytes(t, append(Bytes(n), x), more)
			wantBytes(t, more, append(Bytes(n), x))
		}
	}
}

// Rule 4: an answer is new memory, and what is handed in is left alone.

// lend tells a copy of a list with spare room, and what all of that holds.
func lend[E any](l []E, spare ...E) (lent, held []E) {
	all := append(slices.Clone(l), spare...)
	return all[:len(l)], slices.Clone(all)
}

// touched tells whether a list with spare room holds something else by now.
func touched[E comparable](lent, held []E) bool {
	return !slices.Equal(lent[:len(held)], held)
}

// scribble writes over all of a list's memory.
func scribble[E any](l []E, with E) {
	room := l[:cap(l)]
	for i := range room {
		room[i] = with
	}
}

func TestNumbersAreLeftAlone(t *testing.T) {
	for _, n := range append(someNats(200, 6), full(0, 3), api.Nat{5, 0, 0}) {
		a, held := lend(n, 91, 92, 93)
		s, b := Put(a), Bytes(a)
		if touched(a, held) {
			t.Errorf("what was handed in is changed: %v", n)
		}
		wantPut(t, n, s)
		wantBytes(t, n, b)
		scribble(b, 77)
		if touched(a, held) {
			t.Errorf("what was handed in is answered: %v", n)
		}
		scribble(a, 77)
		wantPut(t, n, s)
	}
}

func TestBytesAreLeftAlone(t *testing.T) {
	for _, n := range someNats(200, 6) {
		for _, b := range [][]byte{Bytes(n), append([]byte{0}, Bytes(n)...), bytes.Repeat([]byte{1}, 10001)} {
			a, held := lend(b, 91, 92, 93)
			got, e := FromBytes(a)
			right, _ := FromBytes(b)
			if touched(a, held) || !slices.Equal(got, right) {
				t.Errorf("bytes with spare room: %v, %v, want %v", got, e, right)
			}
			scribble(a, 77)
			if !slices.Equal(got, right) {
				t.Errorf("what was handed in is kept: %v", b)
			}
			scribble(got, 77)
			if again, _ := FromBytes(b); !slices.Equal(again, right) {
				t.Errorf("an answer is kept: %v", b)
			}
		}
	}
}

func TestFractionsAreLeftAlone(t *testing.T) {
	for _, r := range append(someRatios(200), nones()...) {
		up, heldUp := lend(r.Up.N, 91, 92, 93)
		down, heldDown := lend(r.Down, 94, 95, 96)
		s, e := Text(long(r.Up.Below, up, down))
		if touched(up, heldUp) || touched(down, heldDown) {
			t.Errorf("what was handed in is changed: %v", r)
		}
		if right, f := Text(r); s != right || e != f {
			t.Errorf("Text(%v) by lists with spare room: %s, %v", r, s, e)
		}
	}
}

func TestReadAnswersNewMemory(t *testing.T) {
	for _, r := range someRatios(200) {
		s, _ := Text(r)
		got, _ := Read(s)
		scribble(got.Up.N, 77)
		if !slices.Equal(got.Down, r.Down) {
			t.Errorf("Read(%s) answered one memory twice", s)
		}
		scribble(got.Down, 77)
		wantRead(t, s, r)
		n, _ := Get(Put(r.Down))
		scribble(n, 77)
		wantGet(t, Put(r.Down), r.Down)
	}
}
