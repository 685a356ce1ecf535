package ratio

import (
	"encoding/binary"
	"math/big"
	"math/rand/v2"
	"slices"
	"testing"

	"artesian/api"
	"artesian/limbs"
	"artesian/signed"
)

// toBig tells a natural number by the library's type for it.
func toBig(n api.Nat) *big.Int {
	var b []byte
	for _, x := range slices.Backward(n) {
		b = binary.BigEndian.AppendUint64(b, x)
	}
	return new(big.Int).SetBytes(b)
}

// toRat tells a fraction by the library's type for it.
func toRat(r api.Ratio) *big.Rat {
	x := new(big.Rat).SetFrac(toBig(r.Up.N), toBig(r.Down))
	if r.Up.Below {
		x.Neg(x)
	}
	return x
}

// someNat tells a number of at most so many digits that isn't 0, many of them near 0, near the greatest or near its half.
func someNat(r *rand.Rand, most int) api.Nat {
	n := make(api.Nat, r.IntN(most+1))
	for i := range n {
		n[i] = []uint64{0, top - r.Uint64N(3), half - 1 + r.Uint64N(3), r.Uint64(), r.Uint64N(4)}[r.IntN(5)]
	}
	return append(n, 1+r.Uint64N(12))
}

// someRatios tells fractions on both sides of 0, always the same ones, the edges first. Many have Downs with something in common.
func someRatios(count int) []api.Ratio {
	r := rand.New(rand.NewPCG(17, 18))
	all := []api.Ratio{raw(0, 1), raw(1, 1), raw(-1, 1), raw(1, 2), raw(-1, 2), raw(2, 1), raw(-3, 2), raw(5, 6), raw(-7, 12), raw(-1<<63, 1), raw(1, half), raw(-1, top)}
	for len(all) < count {
		most := r.IntN(5)
		made, _ := Make(api.Int{Below: r.IntN(2) == 1, N: someNat(r, most)}, someNat(r, most))
		all = append(all, made)
	}
	return all
}

// wantRat fails if a call's answer is none, or isn't what the library tells.
func wantRat(t *testing.T, call string, got api.Ratio, err api.Errno, right *big.Rat) {
	t.Helper()
	if err != api.OK || Check(got) != api.OK || toRat(got).Cmp(right) != 0 {
		t.Errorf("%s: got %v, %v, want %v", call, got, err, right)
	}
	// The library is in lowest terms, too, so digits must be the same.
	if toBig(got.Down).Cmp(right.Denom()) != 0 {
		t.Errorf("%s: got %v, want %v below", call, got, right.Denom())
	}
}

// good tells a call's fraction, and fails if there is an error.
func good(t *testing.T) func(r api.Ratio, err api.Errno) api.Ratio {
	return func(r api.Ratio, err api.Errno) api.Ratio {
		t.Helper()
		if err != api.OK || Check(r) != api.OK {
			t.Errorf("no fraction: %v, %v", r, err)
		}
		return r
	}
}

// wantSame fails if two fractions aren't the same, field by field.
func wantSame(t *testing.T, law string, a, b api.Ratio) {
	t.Helper()
	if !same(a, b) {
		t.Errorf("%s: %v and %v", law, a, b)
	}
}

// P5.1 to P5.3

func TestMakeAndCheckAgreeWithLibrary(t *testing.T) {
	r := rand.New(rand.NewPCG(19, 20))
	for range 3000 {
		up, down := api.Int{Below: r.IntN(2) == 1, N: someNat(r, 5)}, someNat(r, 5)
		right := toRat(api.Ratio{Up: up, Down: down})
		got, e := Make(up, append(down, 0, 0)[:len(down)+r.IntN(3)])
		wantRat(t, "Make", got, e, right)
		is := right.Denom().Cmp(toBig(down)) == 0
		if e := Check(api.Ratio{Up: up, Down: down}); is != (e == api.OK) {
			t.Errorf("Check(%v over %v): %v", up, down, e)
		}
	}
}

func TestSmallPairsAgreeWithLibrary(t *testing.T) {
	for up := -40; up <= 40; up++ {
		for down := -40; down <= 40; down++ {
			got, e := Pair(up, down)
			if down == 0 {
				wantErr(t, "Pair", got, e, api.ErrZero)
				continue
			}
			wantRat(t, "Pair", got, e, big.NewRat(int64(up), int64(down)))
			if down > 0 {
				is := big.NewRat(int64(up), int64(down)).Denom().Int64() == int64(down)
				if e := Check(raw(up, uint64(down))); is != (e == api.OK) {
					t.Errorf("Check(%d over %d): %v", up, down, e)
				}
			}
		}
	}
}

func TestTwoAgreeWithLibrary(t *testing.T) {
	all := someRatios(120)
	for _, a := range all {
		x := toRat(a)
		for _, b := range all {
			y := toRat(b)
			got, e := Add(a, b)
			wantRat(t, "Add", got, e, new(big.Rat).Add(x, y))
			got, e = Sub(a, b)
			wantRat(t, "Sub", got, e, new(big.Rat).Sub(x, y))
			got, e = Mul(a, b)
			wantRat(t, "Mul", got, e, new(big.Rat).Mul(x, y))
			if y.Sign() != 0 {
				got, e = Div(a, b)
				wantRat(t, "Div", got, e, new(big.Rat).Quo(x, y))
			}
			if n, e := Cmp(a, b); e != api.OK || n != x.Cmp(y) {
				t.Errorf("Cmp(%v, %v): %d, %v", a, b, n, e)
			}
		}
	}
}

func TestLongFractionsAgreeWithLibrary(t *testing.T) {
	r := rand.New(rand.NewPCG(21, 22))
	var all []api.Ratio
	for _, size := range []int{1, 79, 80, 120} {
		made, _ := Make(api.Int{Below: size%2 == 1, N: append(someNat(r, size), full(top, size)...)}, append(full(3, size), someNat(r, size)...))
		all = append(all, made)
	}
	for _, a := range all {
		for _, b := range all {
			got, e := Add(a, b, a)
			wantRat(t, "Add", got, e, new(big.Rat).Add(toRat(a), new(big.Rat).Add(toRat(a), toRat(b))))
			got, e = Mul(a, b)
			wantRat(t, "Mul", got, e, new(big.Rat).Mul(toRat(a), toRat(b)))
			got, e = Div(a, b)
			wantRat(t, "Div", got, e, new(big.Rat).Quo(toRat(a), toRat(b)))
		}
	}
}

func TestManyAgreeWithLibrary(t *testing.T) {
	sum, product := new(big.Rat), big.NewRat(1, 1)
	var l []api.Ratio
	for i := 1; i <= 120; i++ {
		r := good(t)(Pair(2*i-41, i*(i%5-7)))
		l = append(l, r)
		sum.Add(sum, toRat(r))
		product.Mul(product, toRat(r))
		got, e := Add(l...)
		wantRat(t, "Add", got, e, sum)
		got, e = Mul(l...)
		wantRat(t, "Mul", got, e, product)
	}
}

func TestPowersAgreeWithLibrary(t *testing.T) {
	raised := func(n *big.Int, power int) *big.Int { return new(big.Int).Exp(n, big.NewInt(int64(power)), nil) }
	for _, r := range someRatios(60) {
		for n := range 12 {
			x := toRat(r)
			right := new(big.Rat).SetFrac(raised(x.Num(), n), raised(x.Denom(), n))
			got, e := Power(r, n)
			wantRat(t, "Power", got, e, right)
			if x.Sign() != 0 {
				got, e = Power(r, -n)
				wantRat(t, "Power below 0", got, e, new(big.Rat).Inv(right))
			}
		}
	}
	for _, n := range []int{9999, 10000} {
		right := new(big.Rat).SetFrac(raised(big.NewInt(-7), n), raised(big.NewInt(5), n))
		got, e := Power(raw(-7, 5), n)
		wantRat(t, "Power", got, e, right)
		got, e = Power(raw(-7, 5), -n)
		wantRat(t, "Power below 0", got, e, right.Inv(right))
	}
}

// What is nearest is at most a half away, and if it is just that, even.
func TestRoundIsNearest(t *testing.T) {
	half := big.NewRat(1, 2)
	all := someRatios(500)
	for up := -60; up <= 60; up++ {
		for down := 1; down <= 12; down++ {
			all = append(all, good(t)(Pair(up, down)))
		}
	}
	for _, r := range all {
		n, e := Round(r)
		if e != api.OK || signed.Check(n) != api.OK {
			t.Errorf("Round(%v): %v, %v", r, n, e)
		}
		away := new(big.Rat).Sub(toRat(r), toRat(api.Ratio{Up: n, Down: api.Nat{1}}))
		off := away.Abs(away).Cmp(half)
		if off > 0 || off == 0 && toBig(n.N).Bit(0) == 1 {
			t.Errorf("Round(%v): %v", r, n)
		}
	}
}

// P5.4

func TestFractionsAreAField(t *testing.T) {
	ok := good(t)
	all := someRatios(22)
	for _, a := range all {
		for _, b := range all {
			sum, product := ok(Add(a, b)), ok(Mul(a, b))
			wantSame(t, "a sum turned round", ok(Add(b, a)), sum)
			wantSame(t, "a product turned round", ok(Mul(b, a)), product)
			for _, c := range all {
				three := ok(Add(a, b, c))
				wantSame(t, "a sum of three", ok(Add(sum, c)), three)
				wantSame(t, "a sum of three, from its end", ok(Add(a, ok(Add(b, c)))), three)
				three = ok(Mul(a, b, c))
				wantSame(t, "a product of three", ok(Mul(product, c)), three)
				wantSame(t, "a product of three, from its end", ok(Mul(a, ok(Mul(b, c)))), three)
				wantSame(t, "a product of a sum", ok(Mul(sum, c)), ok(Add(ok(Mul(a, c)), ok(Mul(b, c)))))
			}
		}
	}
}

func TestWhatWasDoneIsUndone(t *testing.T) {
	ok := good(t)
	all := someRatios(80)
	for _, a := range all {
		wantSame(t, "with 0", ok(Add(a, raw(0, 1))), a)
		wantSame(t, "times 1", ok(Mul(a, raw(1, 1))), a)
		wantSame(t, "a sum of one", ok(Add(a)), a)
		wantSame(t, "a product of one", ok(Mul(a)), a)
		wantSame(t, "without itself", ok(Sub(a, a)), raw(0, 1))
		wantSame(t, "with its other side", ok(Add(a, ok(Sub(raw(0, 1), a)))), raw(0, 1))
		wantSame(t, "times 0", ok(Mul(a, raw(0, 1))), raw(0, 1))
		for _, b := range all {
			wantSame(t, "Sub of Add", ok(Sub(ok(Add(a, b)), b)), a)
			wantSame(t, "Add of Sub", ok(Add(ok(Sub(a, b)), b)), a)
			if !same(b, raw(0, 1)) {
				wantSame(t, "Div of Mul", ok(Div(ok(Mul(a, b)), b)), a)
				wantSame(t, "Mul of Div", ok(Mul(ok(Div(a, b)), b)), a)
			}
		}
	}
}

func TestSumsOfManyHangOnNoOrder(t *testing.T) {
	ok := good(t)
	r := rand.New(rand.NewPCG(23, 24))
	all := someRatios(40)
	sum, product := ok(Add(all...)), ok(Mul(all[1:]...))
	for range 20 {
		mixed := slices.Clone(all)
		r.Shuffle(len(mixed), func(i, j int) { mixed[i], mixed[j] = mixed[j], mixed[i] })
		wantSame(t, "a sum of many", ok(Add(mixed...)), sum)
		mixed = slices.DeleteFunc(mixed, func(r api.Ratio) bool { return same(r, raw(0, 1)) })
		wantSame(t, "a product of many", ok(Mul(mixed...)), product)
	}
}

func TestPowersAreProducts(t *testing.T) {
	ok := good(t)
	for _, r := range someRatios(40) {
		if same(r, raw(0, 1)) {
			continue
		}
		for m := -6; m <= 6; m++ {
			power := ok(Power(r, m))
			wantSame(t, "one more", ok(Mul(power, r)), ok(Power(r, m+1)))
			wantSame(t, "turned", ok(Div(raw(1, 1), power)), ok(Power(r, -m)))
			wantSame(t, "a power's power", ok(Power(power, 3)), ok(Power(r, 3*m)))
		}
	}
}

func TestLessIsAnOrderThatSumsKeep(t *testing.T) {
	ok := good(t)
	order := func(a, b api.Ratio) int {
		n, e := Cmp(a, b)
		if e != api.OK {
			t.Error(a, b, e)
		}
		return n
	}
	all := someRatios(28)
	for _, a := range all {
		for _, b := range all {
			n := order(a, b)
			if order(b, a) != -n || order(ok(Sub(a, b)), raw(0, 1)) != n || (n == 0) != same(a, b) {
				t.Errorf("%v and %v: %d", a, b, n)
			}
			for _, c := range all {
				if order(ok(Add(a, c)), ok(Add(b, c))) != n {
					t.Errorf("%v and %v, both with %v", a, b, c)
				}
				if order(ok(Mul(a, c)), ok(Mul(b, c))) != n*signed.Sign(c.Up) {
					t.Errorf("%v and %v, both times %v", a, b, c)
				}
			}
		}
	}
	many := someRatios(150)
	slices.SortFunc(many, order)
	for i, a := range many {
		for _, b := range many[i:] {
			if order(a, b) > 0 {
				t.Errorf("%v stands ahead of %v", a, b)
			}
		}
	}
}

// Rule 4: an answer is new memory, and what is handed in is left alone.

// lent is a fraction whose lists have spare room, and what all of it held.
type lent struct {
	r        api.Ratio
	up, down api.Nat
}

func lend(r api.Ratio) lent {
	up, down := append(slices.Clone(r.Up.N), 91, 92, 93), append(slices.Clone(r.Down), 94, 95, 96)
	return lent{long(r.Up.Below, up[:len(r.Up.N)], down[:len(r.Down)]), slices.Clone(up), slices.Clone(down)}
}

func (l lent) touched() bool {
	return !slices.Equal(l.r.Up.N[:len(l.up)], l.up) || !slices.Equal(l.r.Down[:len(l.down)], l.down)
}

// scribble writes over all of a list's memory.
func scribble(n api.Nat) {
	room := n[:cap(n)]
	for i := range room {
		room[i] = 77
	}
}

// calls tells all calls that answer a fraction, as calls of two.
func calls() map[string]func(a, b api.Ratio) api.Ratio {
	told := func(r api.Ratio, _ api.Errno) api.Ratio { return r }
	return map[string]func(a, b api.Ratio) api.Ratio{
		"Make":     func(a, b api.Ratio) api.Ratio { return told(Make(a.Up, b.Down)) },
		"Add":      func(a, b api.Ratio) api.Ratio { return told(Add(a, b)) },
		"Add 0":    func(a, b api.Ratio) api.Ratio { return told(Add()) },
		"Add 1":    func(a, b api.Ratio) api.Ratio { return told(Add(a)) },
		"Mul":      func(a, b api.Ratio) api.Ratio { return told(Mul(a, b)) },
		"Mul 0":    func(a, b api.Ratio) api.Ratio { return told(Mul()) },
		"Mul 1":    func(a, b api.Ratio) api.Ratio { return told(Mul(a)) },
		"Sub":      func(a, b api.Ratio) api.Ratio { return told(Sub(a, b)) },
		"Div":      func(a, b api.Ratio) api.Ratio { return told(Div(a, b)) },
		"Power 0":  func(a, b api.Ratio) api.Ratio { return told(Power(a, 0)) },
		"Power 1":  func(a, b api.Ratio) api.Ratio { return told(Power(a, 1)) },
		"Power -1": func(a, b api.Ratio) api.Ratio { return told(Power(a, -1)) },
		"Power 3":  func(a, b api.Ratio) api.Ratio { return told(Power(a, 3)) },
		"Round":    func(a, b api.Ratio) api.Ratio { n, _ := Round(a); return api.Ratio{Up: n} },
	}
}

func TestAnswersAreNewMemory(t *testing.T) {
	all := append(someRatios(30), nones()...)
	for name, call := range calls() {
		for _, x := range all {
			for _, y := range all {
				a, b := lend(x), lend(y)
				got, right := call(a.r, b.r), call(x, y)
				if a.touched() || b.touched() {
					t.Errorf("%s changed what it was handed: %v, %v", name, x, y)
				}
				wantSame(t, name+" by lists with spare room", got, right)
				scribble(got.Up.N)
				if !slices.Equal(got.Down, right.Down) {
					t.Errorf("%s answered one memory twice: %v, %v", name, x, y)
				}
				scribble(got.Down)
				if a.touched() || b.touched() {
					t.Errorf("%s answered memory that it was handed: %v, %v", name, x, y)
				}
				wantSame(t, name+" again", call(a.r, b.r), right)
			}
		}
	}
}

func TestCallsThatLookChangeNothing(t *testing.T) {
	for _, x := range append(someRatios(60), nones()...) {
		a, b := lend(x), lend(x)
		Check(a.r)
		Cmp(a.r, b.r)
		if a.touched() || b.touched() {
			t.Errorf("what was handed in is changed: %v", x)
		}
	}
}

func TestListsAreLeftAlone(t *testing.T) {
	room := someRatios(40)
	held := slices.Clone(room)
	good(t)(Add(room[:20]...))
	good(t)(Mul(room[:20]...))
	for i, r := range room {
		wantSame(t, "what was handed in", r, held[i])
	}
}

func TestOneFractionAsAllArguments(t *testing.T) {
	ok := good(t)
	for _, x := range someRatios(60) {
		a := lend(x)
		wantSame(t, "Add", ok(Add(a.r, a.r, a.r)), ok(Mul(x, raw(3, 1))))
		wantSame(t, "Mul", ok(Mul(a.r, a.r, a.r)), ok(Power(x, 3)))
		wantSame(t, "Sub", ok(Sub(a.r, a.r)), raw(0, 1))
		if limbs.Len(x.Up.N) > 0 {
			wantSame(t, "Div", ok(Div(a.r, a.r)), raw(1, 1))
		}
		if n, e := Cmp(a.r, a.r); n != 0 || e != api.OK || a.touched() {
			t.Errorf("%v and itself: %d, %v", x, n, e)
		}
	}
}
