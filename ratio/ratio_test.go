package ratio

import (
	"math/big"
	"testing"

	"distributary/api"
)

const top = 1<<64 - 1

// edges are numbers at which something stops, a word is full, or a product leaves it, and some ordinary ones between.
func edges() []uint64 {
	l := []uint64{
		0, 1, 2, 3, 4, 5, 7, 10, 255,
		1<<31 - 1, 1 << 31, 1<<31 + 1, 1<<32 - 1, 1 << 32, 1<<32 + 1,
		1<<61 - 1, 1 << 61, 1<<61 + 1,
		api.Cap - 2, api.Cap - 1, api.Cap, api.Cap + 1,
		1<<63 - 1, 1 << 63, 1<<63 + 1, top - 2, top - 1, top,
	}
	for n := uint64(0x9e3779b97f4a7c15); len(l) < 33; n = n*0xbf58476d1ce4e5b9 + 0x94d049bb133111eb {
		l = append(l, n)
	}
	return l
}

// few are those for tests that go over many at once.
func few() []uint64 {
	return []uint64{0, 1, 2, 3, 10, 1<<31 - 1, 1 << 31, 1 << 32, api.Cap - 1, api.Cap, api.Cap + 1, 1 << 63, top - 1, top}
}

func whole(n uint64) *big.Int { return new(big.Int).SetUint64(n) }

// told is n as it is to be told: 0 if it is less, Cap if it is more.
func told(n *big.Int) uint64 {
	if n.Sign() < 0 {
		return 0
	}
	if n.Cmp(whole(api.Cap)) > 0 {
		return api.Cap
	}
	return n.Uint64()
}

type sum struct{ a, b, want uint64 }

func testSums(t *testing.T, name string, do func(a, b uint64) uint64, l []sum) {
	t.Helper()
	for _, x := range l {
		if n := do(x.a, x.b); n != x.want {
			t.Errorf("%s of %d, %d: %d, not %d", name, x.a, x.b, n, x.want)
		}
	}
}

func TestPlusExamples(t *testing.T) { // P2.1
	testSums(t, "Plus", Plus, []sum{
		{0, 0, 0},
		{7, 5, 12},
		{5, 7, 12},
		{api.Cap, 1, api.Cap},
		// Just one less than Cap, just Cap, one more.
		{api.Cap - 2, 1, api.Cap - 1},
		{api.Cap - 1, 1, api.Cap},
		{1 << 61, 1 << 61, api.Cap},
		{1 << 61, 1<<61 - 1, api.Cap - 1},
		{1 << 61, 1<<61 + 1, api.Cap},
		{api.Cap, 0, api.Cap},
		{api.Cap + 1, 0, api.Cap},
		{0, top, api.Cap},
		// More than 2^64 - 1: a word's sum would turn round to less than Cap.
		{top, 1, api.Cap},
		{top, top, api.Cap},
		{1 << 63, 1 << 63, api.Cap},
		{1 << 63, 1<<63 + 5, api.Cap},
	})
}

func TestMinusExamples(t *testing.T) { // P2.1
	testSums(t, "Minus", Minus, []sum{
		{0, 0, 0},
		{7, 5, 2},
		{5, 7, 0},
		{5, 5, 0},
		{0, 1, 0},
		{0, top, 0},
		{top - 1, top, 0},
		{top, top, 0},
		{api.Cap, 1, api.Cap - 1},
		{api.Cap, 0, api.Cap},
		{api.Cap + 1, 1, api.Cap},
		{api.Cap + 1, 0, api.Cap},
		{api.Cap + 1, 2, api.Cap - 1},
		{top, 0, api.Cap},
		{top, top - api.Cap, api.Cap},
		{top, top - api.Cap - 1, api.Cap},
		{top, top - api.Cap + 1, api.Cap - 1},
	})
}

func TestTimesExamples(t *testing.T) { // P2.1
	testSums(t, "Times", Times, []sum{
		{0, 0, 0},
		{7, 5, 35},
		{0, top, 0},
		{top, 0, 0},
		{1, api.Cap - 1, api.Cap - 1},
		{1, api.Cap, api.Cap},
		{1, api.Cap + 1, api.Cap},
		{top, 1, api.Cap},
		{1 << 31, 1 << 31, api.Cap},
		{1 << 31, 1<<31 - 1, api.Cap - 1<<31},
		{1<<31 - 1, 1<<31 + 1, api.Cap - 1},
		{1 << 31, 1<<31 + 1, api.Cap},
		// More than 64 bits: the low word alone is 0, or 1.
		{1 << 32, 1 << 32, api.Cap},
		{1 << 63, 2, api.Cap},
		{top, top, api.Cap},
	})
}

func TestPlusMinusTimesOfAll(t *testing.T) { // P2.1
	for _, a := range edges() {
		for _, b := range edges() {
			x, y := whole(a), whole(b)
			if n, want := Plus(a, b), told(new(big.Int).Add(x, y)); n != want {
				t.Errorf("%d and %d: %d, not %d", a, b, n, want)
			}
			if n, want := Minus(a, b), told(new(big.Int).Sub(x, y)); n != want {
				t.Errorf("%d less %d: %d, not %d", a, b, n, want)
			}
			if n, want := Times(a, b), told(new(big.Int).Mul(x, y)); n != want {
				t.Errorf("%d times %d: %d, not %d", a, b, n, want)
			}
		}
	}
}

func TestDownUpExamples(t *testing.T) { // P2.2
	for _, x := range []struct {
		a, b, c, down, up uint64
		e                 api.Errno
	}{
		{7, 3, 4, 5, 6, api.OK},
		// Nothing left, one left, one less than c left.
		{8, 3, 4, 6, 6, api.OK},
		{5, 5, 4, 6, 7, api.OK},
		{9, 3, 4, 6, 7, api.OK},
		{1, 3, 4, 0, 1, api.OK},
		{0, 3, 4, 0, 0, api.OK},
		{3, 0, 4, 0, 0, api.OK},
		{1, 1, top, 0, 1, api.OK},
		{1, top, top, 1, 1, api.OK},
		{1, top - 1, top, 0, 1, api.OK},
		{2, top, top - 1, 2, 3, api.OK},
		// The product has more than 64 bits, the quotient doesn't.
		{api.Cap, 3, 4, 3 << 60, 3 << 60, api.OK},
		{api.Cap, 4, 5, 3689348814741910323, 3689348814741910324, api.OK},
		{1 << 33, 1 << 33, 1 << 10, 1 << 56, 1 << 56, api.OK},
		// Just one less than Cap, between, just Cap, more.
		{api.Cap - 1, 10, 10, api.Cap - 1, api.Cap - 1, api.OK},
		{2*api.Cap - 1, 1, 2, api.Cap - 1, api.Cap, api.OK},
		{api.Cap, 10, 10, api.Cap, api.Cap, api.OK},
		{2*api.Cap + 1, 1, 2, api.Cap, api.Cap, api.OK},
		{api.Cap + 1, 10, 10, api.Cap, api.Cap, api.OK},
		// Quotients of 2^64 - 1, with and without a rest, and of more.
		{top, top, top, api.Cap, api.Cap, api.OK},
		{top, 3, 3, api.Cap, api.Cap, api.OK},
		{1<<63 + 1, 4, 3, api.Cap, api.Cap, api.OK},
		{1 << 63, 1<<63 - 1, 1<<62 - 1, api.Cap, api.Cap, api.OK},
		{1 << 32, 1 << 32, 1, api.Cap, api.Cap, api.OK},
		{top, top, 1, api.Cap, api.Cap, api.OK},
		{top, top, 2, api.Cap, api.Cap, api.OK},
		// By 0, whatever is divided.
		{5, 5, 0, 0, 0, api.ErrArg},
		{0, 0, 0, 0, 0, api.ErrArg},
		{top, top, 0, 0, 0, api.ErrArg},
	} {
		if n, e := Down(x.a, x.b, x.c); n != x.down || e != x.e {
			t.Errorf("%d times %d by %d, down: %d %v, not %d %v", x.a, x.b, x.c, n, e, x.down, x.e)
		}
		if n, e := Up(x.a, x.b, x.c); n != x.up || e != x.e {
			t.Errorf("%d times %d by %d, up: %d %v, not %d %v", x.a, x.b, x.c, n, e, x.up, x.e)
		}
	}
}

func TestDownUpOfAll(t *testing.T) { // P2.2
	for _, a := range edges() {
		for _, b := range edges() {
			product := new(big.Int).Mul(whole(a), whole(b))
			for _, c := range edges() {
				wantE := api.ErrArg
				var down, up uint64
				if c != 0 {
					q, rest := new(big.Int).QuoRem(product, whole(c), new(big.Int))
					down, wantE = told(q), api.OK
					if rest.Sign() > 0 {
						q.Add(q, whole(1))
					}
					up = told(q)
				}
				if n, e := Down(a, b, c); n != down || e != wantE {
					t.Errorf("%d times %d by %d, down: %d %v, not %d %v", a, b, c, n, e, down, wantE)
				}
				if n, e := Up(a, b, c); n != up || e != wantE {
					t.Errorf("%d times %d by %d, up: %d %v, not %d %v", a, b, c, n, e, up, wantE)
				}
			}
		}
	}
}

func TestOverExamples(t *testing.T) { // P2.3
	for _, x := range []struct {
		a, b, q, rest uint64
		e             api.Errno
	}{
		{0, 1, 0, 0, api.OK},
		{7, 3, 2, 1, api.OK},
		{9, 3, 3, 0, api.OK},
		{3, 7, 0, 3, api.OK},
		{top, 10, 1844674407370955161, 5, api.OK},
		// Neither stops.
		{top, 1, top, 0, api.OK},
		{top, 2, 1<<63 - 1, 1, api.OK},
		{top - 1, top, 0, top - 1, api.OK},
		{top, top, 1, 0, api.OK},
		{api.Cap + 1, 1, api.Cap + 1, 0, api.OK},
		{3, 0, 0, 0, api.ErrArg},
		{0, 0, 0, 0, api.ErrArg},
		{top, 0, 0, 0, api.ErrArg},
	} {
		if q, rest, e := Over(x.a, x.b); q != x.q || rest != x.rest || e != x.e {
			t.Errorf("%d over %d: %d %d %v, not %d %d %v", x.a, x.b, q, rest, e, x.q, x.rest, x.e)
		}
	}
}

func TestOverOfAll(t *testing.T) { // P2.3
	for _, a := range edges() {
		for _, b := range edges() {
			q, rest, e := Over(a, b)
			if b == 0 {
				if q != 0 || rest != 0 || e != api.ErrArg {
					t.Errorf("%d over 0: %d %d %v", a, q, rest, e)
				}
				continue
			}
			if q != a/b || rest != a%b || e != api.OK {
				t.Errorf("%d over %d: %d %d %v, not %d %d", a, b, q, rest, e, a/b, a%b)
			}
		}
	}
}

func TestHalfExamples(t *testing.T) { // P2.3
	testSums(t, "Half", Half, []sum{
		{0, 0, 0},
		{0, 1, 0},
		{1, 0, 0},
		{1, 1, 1},
		{7, 5, 6},
		{5, 8, 6},
		{8, 5, 6},
		// Great ones: it doesn't stop, and the sum has 65 bits.
		{api.Cap, api.Cap, api.Cap},
		{api.Cap, api.Cap + 3, api.Cap + 1},
		{top, 0, 1<<63 - 1},
		{0, top, 1<<63 - 1},
		{top, 1, 1 << 63},
		{1 << 63, 1 << 63, 1 << 63},
		{top, top - 2, top - 1},
		{top - 2, top, top - 1},
		{top, top - 1, top - 1},
		{top, top, top},
	})
}

func TestHalfOfAll(t *testing.T) { // P2.3
	for _, a := range edges() {
		for _, b := range edges() {
			sum := new(big.Int).Add(whole(a), whole(b))
			if h, want := Half(a, b), sum.Rsh(sum, 1).Uint64(); h != want {
				t.Errorf("half of %d and %d: %d, not %d", a, b, h, want)
			}
		}
	}
}

func TestUpIsDownOrOneMore(t *testing.T) { // P2.4
	for _, a := range edges() {
		for _, b := range edges() {
			product := new(big.Int).Mul(whole(a), whole(b))
			for _, c := range edges() {
				if c == 0 {
					continue
				}
				down, _ := Down(a, b, c)
				up, _ := Up(a, b, c)
				if up != down && up != down+1 {
					t.Errorf("%d times %d by %d: down %d, up %d", a, b, c, down, up)
				}
				left := new(big.Int).Rem(product, whole(c)).Sign() > 0
				if same := !left || down == api.Cap; same != (up == down) {
					t.Errorf("%d times %d by %d: down %d, up %d; something left: %t", a, b, c, down, up, left)
				}
				if new(big.Int).Mul(whole(c), whole(down)).Cmp(product) > 0 {
					t.Errorf("%d times %d by %d: down %d: c times that is more", a, b, c, down)
				}
				if down < api.Cap && new(big.Int).Mul(whole(c), whole(down+1)).Cmp(product) <= 0 {
					t.Errorf("%d times %d by %d: down %d: c times one more is no more", a, b, c, down)
				}
			}
		}
	}
}

func TestUpIsTheLeastOfDown(t *testing.T) { // P2.5
	for _, a := range edges() {
		for _, b := range edges() {
			for _, c := range edges() {
				n, e := Up(a, b, c)
				if b == 0 || e != api.OK || n == api.Cap || a >= api.Cap {
					continue
				}
				if back, e := Down(n, c, b); e != api.OK || back < a {
					t.Errorf("up of %d times %d by %d is %d; but down of it is %d %v", a, b, c, n, back, e)
				}
				if n == 0 {
					continue
				}
				if back, e := Down(n-1, c, b); e != api.OK || back >= a {
					t.Errorf("up of %d times %d by %d is %d; but one less is enough: %d %v", a, b, c, n, back, e)
				}
			}
		}
	}
}

func TestUpIsTheLeastOfSmallOnes(t *testing.T) { // P2.5
	const enough = 20 * 12 // no quotient of these is more
	for a := range uint64(20) {
		for b := uint64(1); b < 12; b++ {
			for c := uint64(1); c < 12; c++ {
				least := uint64(0)
				for n, _ := Down(least, c, b); n < a && least <= enough; n, _ = Down(least, c, b) {
					least++
				}
				if n, e := Up(a, b, c); n != least || e != api.OK {
					t.Errorf("up of %d times %d by %d: %d %v, not %d", a, b, c, n, e, least)
				}
			}
		}
	}
}

func TestNothingIsMoreThanCap(t *testing.T) { // P2.6
	for _, a := range edges() {
		for _, b := range edges() {
			if m := max(Plus(a, b), Minus(a, b), Times(a, b)); m > api.Cap {
				t.Errorf("of %d and %d: %d", a, b, m)
			}
			for _, c := range edges() {
				down, _ := Down(a, b, c)
				up, _ := Up(a, b, c)
				if max(down, up) > api.Cap {
					t.Errorf("%d times %d by %d: %d, %d", a, b, c, down, up)
				}
			}
		}
	}
}

func TestTheOrderIsNoMatter(t *testing.T) { // P2.6
	for _, a := range edges() {
		for _, b := range edges() {
			if Plus(a, b) != Plus(b, a) || Times(a, b) != Times(b, a) {
				t.Errorf("%d, %d: turned round it is something else", a, b)
			}
			stopA, stopB := min(a, api.Cap), min(b, api.Cap)
			if Plus(a, b) != Plus(stopA, stopB) || Times(a, b) != Times(stopA, stopB) {
				t.Errorf("%d, %d: stopped ahead it is something else", a, b)
			}
			for _, c := range edges() {
				if x, y := Plus(Plus(a, b), c), Plus(a, Plus(b, c)); x != y {
					t.Errorf("%d, %d, %d: sums %d, %d", a, b, c, x, y)
				}
				if x, y := Times(Times(a, b), c), Times(a, Times(b, c)); x != y {
					t.Errorf("%d, %d, %d: products %d, %d", a, b, c, x, y)
				}
				if x, y := Times(a, Plus(b, c)), Plus(Times(a, b), Times(a, c)); x != y {
					t.Errorf("%d times the sum of %d, %d: %d, by parts %d", a, b, c, x, y)
				}
			}
		}
	}
}

func TestWhatGrowsMakesNothingLess(t *testing.T) { // P2.6
	l := few()
	for i, b := range l {
		for _, a := range l[:i+1] {
			for _, n := range l {
				if Plus(a, n) > Plus(b, n) || Minus(a, n) > Minus(b, n) || Times(a, n) > Times(b, n) || Half(a, n) > Half(b, n) {
					t.Errorf("%d to %d, with %d: it gets less", a, b, n)
				}
				for _, c := range l[1:] {
					for _, do := range []func(a, b, c uint64) (uint64, api.Errno){Down, Up} {
						x, _ := do(a, n, c)
						y, _ := do(b, n, c)
						z, _ := do(n, b, c)
						if x > y || z != y {
							t.Errorf("%d to %d, times %d by %d: %d, %d, turned round %d", a, b, n, c, x, y, z)
						}
					}
				}
			}
		}
	}
}

func TestHalfIsBetween(t *testing.T) { // P2.7
	for _, a := range edges() {
		for _, b := range edges() {
			h, low, high := Half(a, b), min(a, b), max(a, b)
			if h != Half(b, a) {
				t.Errorf("half of %d and %d: %d; turned round %d", a, b, h, Half(b, a))
			}
			if h < low || h > high {
				t.Fatalf("half of %d and %d: %d isn't between", a, b, h)
			}
			if far, near := high-h, h-low; far != near && far != near+1 {
				t.Errorf("half of %d and %d: %d is %d behind the one, %d ahead of the other one", a, b, h, near, far)
			}
		}
	}
}
