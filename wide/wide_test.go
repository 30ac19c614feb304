package wide

import (
	"cmp"
	"math/big"
	"slices"
	"testing"

	"distributary/api"
)

const top = 1<<64 - 1

// edges are numbers at which halves, words or signs turn over, and some ordinary ones between.
func edges() []uint64 {
	l := []uint64{0, 1, 2, 3, 10, 255, 1<<31 - 1, 1 << 31, 1<<32 - 1, 1 << 32, 1<<32 + 1, 1<<33 - 1, 1<<63 - 1, 1 << 63, 1<<63 + 1, top - 1<<32, top - 2, top - 1, top}
	for n := uint64(0x9e3779b97f4a7c15); len(l) < 26; n = n*0xbf58476d1ce4e5b9 + 0x94d049bb133111eb {
		l = append(l, n)
	}
	return l
}

// words are few numbers for tests that go over many at once.
func words() []uint64 {
	return []uint64{0, 1, 2, 7, 1<<32 - 1, 1 << 32, 1 << 63, 0x9e3779b97f4a7c15, top - 1, top}
}

func wides() []Wide {
	var l []Wide
	for _, high := range words() {
		for _, low := range words() {
			l = append(l, Wide{High: high, Low: low})
		}
	}
	return l
}

func whole(n uint64) *big.Int { return new(big.Int).SetUint64(n) }

func number(w Wide) *big.Int {
	n := whole(w.High)
	return n.Lsh(n, 64).Add(n, whole(w.Low))
}

// told is the number n as a wide one, or ErrSum if it is none.
func told(n *big.Int) (Wide, api.Errno) {
	if n.Sign() < 0 || n.BitLen() > 128 {
		return Wide{}, api.ErrSum
	}
	high := new(big.Int).Rsh(n, 64)
	low := new(big.Int).And(n, whole(top))
	return Wide{High: high.Uint64(), Low: low.Uint64()}, api.OK
}

func TestMulExamples(t *testing.T) { // P1.1
	for _, x := range []struct {
		a, b uint64
		want Wide
	}{
		{0, 0, Wide{}},
		{0, top, Wide{}},
		{1, top, Wide{Low: top}},
		{6, 7, Wide{Low: 42}},
		{1 << 32, 1 << 32, Wide{High: 1}},
		{1<<32 - 1, 1<<32 - 1, Wide{Low: 1<<64 - 1<<33 + 1}},
		{1<<32 - 1, 1<<32 + 1, Wide{Low: top}},
		{1 << 63, 2, Wide{High: 1}},
		{top, top, Wide{High: top - 1, Low: 1}},
	} {
		if p := Mul(x.a, x.b); p != x.want {
			t.Errorf("%d times %d: %v, not %v", x.a, x.b, p, x.want)
		}
	}
}

func TestMulIsTheProduct(t *testing.T) { // P1.1
	for _, a := range edges() {
		for _, b := range edges() {
			want, _ := told(new(big.Int).Mul(whole(a), whole(b)))
			if p := Mul(a, b); p != want {
				t.Errorf("%d times %d: %v, not %v", a, b, p, want)
			}
		}
	}
}

func TestDot(t *testing.T) { // P1.1
	for i, x := range []struct {
		a, b []uint64
		want Wide
		e    api.Errno
	}{
		{nil, nil, Wide{}, api.OK},
		{nil, []uint64{7}, Wide{}, api.OK},
		{[]uint64{7}, []uint64{}, Wide{}, api.OK},
		{[]uint64{2, 3}, []uint64{5, 7}, Wide{Low: 31}, api.OK},
		{[]uint64{2, 3, 11}, []uint64{5, 7}, Wide{Low: 31}, api.OK},
		{[]uint64{2, 3}, []uint64{5, 7, 11}, Wide{Low: 31}, api.OK},
		{[]uint64{1 << 32, top, 1}, []uint64{1 << 32, 1, 1}, Wide{High: 2}, api.OK},
		// Just 2^128 - 1, and one more, at the end or ahead of other places.
		{[]uint64{top, top}, []uint64{top, 2}, Wide{High: top, Low: top}, api.OK},
		{[]uint64{top, top, 0, 5}, []uint64{top, 2, top, 0}, Wide{High: top, Low: top}, api.OK},
		{[]uint64{top, top, 1}, []uint64{top, 2, 1}, Wide{}, api.ErrSum},
		{[]uint64{1, top, top}, []uint64{1, top, 2}, Wide{}, api.ErrSum},
		{[]uint64{top, top, 1, 2, 3}, []uint64{top, 2, 1, 2, 3}, Wide{}, api.ErrSum},
		{[]uint64{top, top}, []uint64{top, top}, Wide{}, api.ErrSum},
		// A place that only one row has adds nothing.
		{[]uint64{top, top, 1}, []uint64{top, 2}, Wide{High: top, Low: top}, api.OK},
		{[]uint64{top}, []uint64{top, top}, Wide{High: top - 1, Low: 1}, api.OK},
	} {
		a, b := slices.Clone(x.a), slices.Clone(x.b)
		if s, e := Dot(a, b); s != x.want || e != x.e {
			t.Errorf("%d: %v %v, not %v %v", i, s, e, x.want, x.e)
		}
		if s, e := Dot(b, a); s != x.want || e != x.e {
			t.Errorf("%d, rows exchanged: %v %v, not %v %v", i, s, e, x.want, x.e)
		}
		if !slices.Equal(a, x.a) || !slices.Equal(b, x.b) {
			t.Errorf("%d: a row was changed", i)
		}
	}
}

func TestDotIsTheSumOfProducts(t *testing.T) { // P1.1
	l := edges()
	for from := range l {
		for to := from; to <= len(l); to++ {
			a := l[from:to]
			b := slices.Clone(l[:to])
			slices.Reverse(b)
			sum := new(big.Int)
			for i, n := range a {
				sum.Add(sum, new(big.Int).Mul(whole(n), whole(b[i])))
			}
			want, wantE := told(sum)
			if s, e := Dot(a, b); s != want || e != wantE {
				t.Errorf("%v %v: %v %v, not %v %v", a, b, s, e, want, wantE)
			}
		}
	}
}

func TestPlusMinusEdges(t *testing.T) { // P1.2
	most := Wide{High: top, Low: top}
	one := Wide{Low: 1}
	for i, x := range []struct {
		do   func(Wide, Wide) (Wide, api.Errno)
		a, b Wide
		want Wide
		e    api.Errno
	}{
		{Wide.Plus, Wide{}, Wide{}, Wide{}, api.OK},
		{Wide.Plus, Wide{Low: top}, one, Wide{High: 1}, api.OK},
		{Wide.Plus, Wide{High: top, Low: top - 1}, one, most, api.OK},
		{Wide.Plus, most, Wide{}, most, api.OK},
		{Wide.Plus, most, one, Wide{}, api.ErrSum},
		{Wide.Plus, Wide{High: top}, Wide{High: 1}, Wide{}, api.ErrSum},
		{Wide.Plus, most, most, Wide{}, api.ErrSum},
		{Wide.Minus, Wide{}, Wide{}, Wide{}, api.OK},
		{Wide.Minus, most, most, Wide{}, api.OK},
		{Wide.Minus, Wide{High: 1}, one, Wide{Low: top}, api.OK},
		{Wide.Minus, Wide{High: 1}, Wide{Low: top}, one, api.OK},
		{Wide.Minus, Wide{}, one, Wide{}, api.ErrSum},
		{Wide.Minus, Wide{High: 3, Low: 4}, Wide{High: 3, Low: 5}, Wide{}, api.ErrSum},
		{Wide.Minus, Wide{Low: top}, Wide{High: 1}, Wide{}, api.ErrSum},
	} {
		if s, e := x.do(x.a, x.b); s != x.want || e != x.e {
			t.Errorf("%d: %v %v: %v %v, not %v %v", i, x.a, x.b, s, e, x.want, x.e)
		}
	}
}

func TestPlusMinusCmpOfAll(t *testing.T) { // P1.2
	for _, w := range wides() {
		for _, x := range wides() {
			a, b := number(w), number(x)
			want, wantE := told(new(big.Int).Add(a, b))
			if s, e := w.Plus(x); s != want || e != wantE {
				t.Errorf("%v and %v: %v %v, not %v %v", w, x, s, e, want, wantE)
			}
			want, wantE = told(new(big.Int).Sub(a, b))
			if d, e := w.Minus(x); d != want || e != wantE {
				t.Errorf("%v less %v: %v %v, not %v %v", w, x, d, e, want, wantE)
			}
			if c := w.Cmp(x); c != a.Cmp(b) {
				t.Errorf("%v to %v: %d, not %d", w, x, c, a.Cmp(b))
			}
		}
	}
}

func TestDivExamples(t *testing.T) { // P1.3
	for _, x := range []struct {
		w          Wide
		n, q, rest uint64
		e          api.Errno
	}{
		{Wide{}, 5, 0, 0, api.OK},
		{Wide{Low: 7}, 3, 2, 1, api.OK},
		{Wide{Low: 3}, 7, 0, 3, api.OK},
		{Wide{High: 1, Low: 3}, 10, 1844674407370955161, 9, api.OK},
		// Quotients of just 2^64 - 1, and of one more.
		{Wide{Low: top}, 1, top, 0, api.OK},
		{Wide{High: 1}, 1, 0, 0, api.ErrSum},
		{Wide{High: 9, Low: top}, 10, top, 9, api.OK},
		{Wide{High: 10}, 10, 0, 0, api.ErrSum},
		{Wide{High: top - 1, Low: top}, top, top, top - 1, api.OK},
		{Wide{High: top}, top, 0, 0, api.ErrSum},
		{Wide{High: top, Low: top}, 1, 0, 0, api.ErrSum},
		// By 0, whether or not the quotient would be too great.
		{Wide{}, 0, 0, 0, api.ErrArg},
		{Wide{Low: 1}, 0, 0, 0, api.ErrArg},
		{Wide{High: top, Low: top}, 0, 0, 0, api.ErrArg},
	} {
		if q, rest, e := x.w.Div(x.n); q != x.q || rest != x.rest || e != x.e {
			t.Errorf("%v by %d: %d %d %v, not %d %d %v", x.w, x.n, q, rest, e, x.q, x.rest, x.e)
		}
	}
}

func TestDivOfAll(t *testing.T) { // P1.3
	for _, w := range wides() {
		for _, n := range edges() {
			wantE := api.ErrArg
			var want, wantRest uint64
			if n != 0 {
				wantE = api.ErrSum
				if q, rest := new(big.Int).QuoRem(number(w), whole(n), new(big.Int)); q.IsUint64() {
					want, wantRest, wantE = q.Uint64(), rest.Uint64(), api.OK
				}
			}
			if q, rest, e := w.Div(n); q != want || rest != wantRest || e != wantE {
				t.Errorf("%v by %d: %d %d %v, not %d %d %v", w, n, q, rest, e, want, wantRest, wantE)
			}
		}
	}
}

func TestFractionExamples(t *testing.T) { // P1.4
	for _, x := range []struct {
		a, b, c, d uint64
		want       int
	}{
		{1, 3, 2, 5, -1},
		{2, 5, 1, 3, 1},
		{2, 6, 1, 3, 0},
		{top, top - 1, top - 1, top - 2, -1},
		{1, top, 1, top - 1, -1},
		{top, 1, top - 1, 1, 1},
		{top, top, 1, 1, 0},
		{0, 1, 0, top, 0},
		// Of b or d 0: by the products alone.
		{1, 0, 5, 1, 1},
		{5, 1, 1, 0, -1},
		{1, 0, 2, 0, 0},
		{0, 0, 5, 1, 0},
		{5, 1, 0, 0, 0},
		{0, 0, 0, 0, 0},
		{0, 1, 0, 0, 0},
		{0, 1, 1, 0, -1},
	} {
		if c := Fraction(x.a, x.b, x.c, x.d); c != x.want {
			t.Errorf("%d/%d to %d/%d: %d, not %d", x.a, x.b, x.c, x.d, c, x.want)
		}
	}
}

func TestFractionByProducts(t *testing.T) { // P1.4
	for _, a := range words() {
		for _, b := range words() {
			for _, c := range words() {
				for _, d := range words() {
					want := new(big.Int).Mul(whole(a), whole(d)).Cmp(new(big.Int).Mul(whole(c), whole(b)))
					if f := Fraction(a, b, c, d); f != want {
						t.Errorf("%d/%d to %d/%d: %d, not %d", a, b, c, d, f, want)
					}
				}
			}
		}
	}
}

func TestASumMultiplied(t *testing.T) { // P1.5
	for _, a := range edges() {
		for _, b := range edges() {
			if a > top-b {
				continue
			}
			for _, c := range edges() {
				one := Mul(a+b, c)
				two, e := Mul(a, c).Plus(Mul(b, c))
				if one != two || e != api.OK {
					t.Errorf("%d and %d, times %d: %v; by parts %v %v", a, b, c, one, two, e)
				}
				row, e := Dot([]uint64{a, b}, []uint64{c, c})
				if one != row || e != api.OK {
					t.Errorf("%d and %d, times %d: %v; as rows %v %v", a, b, c, one, row, e)
				}
			}
		}
	}
}

func TestAddedAndTakenAway(t *testing.T) { // P1.5
	for _, w := range wides() {
		for _, x := range wides() {
			sum, e := w.Plus(x)
			if back, e2 := x.Plus(w); back != sum || e2 != e {
				t.Errorf("%v and %v: %v %v; exchanged %v %v", w, x, sum, e, back, e2)
			}
			if e != api.OK {
				continue
			}
			if d, e := sum.Minus(x); d != w || e != api.OK {
				t.Errorf("%v and %v, less it: %v %v", w, x, d, e)
			}
			if d, e := sum.Minus(w); d != x || e != api.OK {
				t.Errorf("%v and %v, less the first: %v %v", w, x, d, e)
			}
		}
	}
}

func TestQuotientAndRest(t *testing.T) { // P1.6
	for _, w := range wides() {
		for _, n := range edges() {
			q, rest, e := w.Div(n)
			if e != api.OK {
				continue
			}
			if rest >= n {
				t.Errorf("%v by %d: a rest of %d", w, n, rest)
			}
			if back, e := Mul(q, n).Plus(Wide{Low: rest}); back != w || e != api.OK {
				t.Errorf("%v by %d: %d, rest %d: that is %v %v", w, n, q, rest, back, e)
			}
		}
	}
	for _, q := range edges() {
		for _, n := range edges() {
			for _, rest := range edges() {
				if rest >= n {
					continue
				}
				w, _ := Mul(q, n).Plus(Wide{Low: rest})
				if q2, rest2, e := w.Div(n); q2 != q || rest2 != rest || e != api.OK {
					t.Errorf("%v by %d: %d %d %v, not %d %d", w, n, q2, rest2, e, q, rest)
				}
			}
		}
	}
}

func TestCmpIsAnOrder(t *testing.T) { // P1.7
	l := wides()
	for _, w := range l {
		for _, x := range l {
			c := w.Cmp(x)
			if c != -x.Cmp(w) || (c == 0) != (w == x) || c < -1 || c > 1 {
				t.Errorf("%v to %v: %d, %d", w, x, c, x.Cmp(w))
			}
			for _, y := range l {
				if c <= 0 && x.Cmp(y) <= 0 && w.Cmp(y) > 0 {
					t.Fatalf("%v, %v, %v: no order", w, x, y)
				}
			}
		}
	}
	// That the greater high half decides, whatever the lower ones are.
	if c := (Wide{High: 1, Low: 0}).Cmp(Wide{High: 0, Low: top}); c != 1 {
		t.Errorf("2^64 to 2^64 - 1: %d", c)
	}
}

// fractions are some that aren't of 0.
func fractions() [][2]uint64 {
	var l [][2]uint64
	for _, a := range words() {
		for _, b := range words() {
			if b != 0 {
				l = append(l, [2]uint64{a, b})
			}
		}
	}
	return l
}

func TestFractionsAreOrdered(t *testing.T) { // P1.7
	l := fractions()
	for _, f := range l {
		for _, g := range l {
			c := Fraction(f[0], f[1], g[0], g[1])
			if c != -Fraction(g[0], g[1], f[0], f[1]) {
				t.Errorf("%v to %v: %d, and likewise turned round", f, g, c)
			}
			for _, h := range l {
				if c <= 0 && Fraction(g[0], g[1], h[0], h[1]) <= 0 && Fraction(f[0], f[1], h[0], h[1]) > 0 {
					t.Fatalf("%v, %v, %v: no order", f, g, h)
				}
			}
		}
	}
	slices.SortFunc(l, func(f, g [2]uint64) int { return Fraction(f[0], f[1], g[0], g[1]) })
	for i := 1; i < len(l); i++ {
		f := new(big.Rat).SetFrac(whole(l[i-1][0]), whole(l[i-1][1]))
		g := new(big.Rat).SetFrac(whole(l[i][0]), whole(l[i][1]))
		if f.Cmp(g) > 0 {
			t.Errorf("%v is ahead of %v", l[i-1], l[i])
		}
	}
}

func TestFractionsMultiplied(t *testing.T) { // P1.7
	small := []uint64{1, 2, 3, 7, 1000, 1<<16 - 1, 1 << 16, 1<<32 - 1}
	times := []uint64{1, 2, 3, 10, 1<<31 + 1, 1<<32 - 1, 1 << 32}
	for _, a := range append([]uint64{0}, small...) {
		for _, b := range small {
			for _, k := range times {
				if c := Fraction(a*k, b*k, a, b); c != 0 {
					t.Errorf("%d/%d, times %d, to itself: %d", a, b, k, c)
				}
				for _, c := range small {
					for _, d := range small {
						one := Fraction(a, b, c, d)
						if one != cmp.Compare(a*d, c*b) {
							t.Errorf("%d/%d to %d/%d: %d", a, b, c, d, one)
						}
						if two := Fraction(a*k, b*k, c, d); two != one {
							t.Errorf("%d/%d to %d/%d: %d; times %d: %d", a, b, c, d, one, k, two)
						}
						if two := Fraction(a, b, c*k, d*k); two != one {
							t.Errorf("%d/%d to %d/%d: %d; the other one times %d: %d", a, b, c, d, one, k, two)
						}
					}
				}
			}
		}
	}
}
