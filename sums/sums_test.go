package sums

import (
	"math/big"
	"math/rand"
	"slices"
	"testing"

	"distributary/api"
	"distributary/curve"
	"distributary/wide"
)

const top = 1<<64 - 1

func of(first, length, rest uint64) api.Curve {
	return api.Curve{First: first, Length: length, Rest: rest}
}

func straight(slope uint64) api.Curve { return of(0, 0, slope) }

// written is DOC.md's 'It may be', word by word.
func written(c api.Curve) bool {
	if c.First > api.MaxSlope || c.Rest > api.MaxSlope || c.Length > api.MaxTick {
		return false
	}
	if c.Length == 0 {
		return c.First == 0
	}
	return c.First != c.Rest
}

func grid(slopes, lengths []uint64) []api.Curve {
	var l []api.Curve
	for _, first := range slopes {
		for _, length := range lengths {
			for _, rest := range slopes {
				l = append(l, of(first, length, rest))
			}
		}
	}
	return l
}

// small are curves, may they be or not, whose sums are late by few ticks, if at all.
func small() []api.Curve { return grid([]uint64{0, 1, 2, 5}, []uint64{0, 1, 3, 8}) }

// wild are curves at and beyond all limits.
func wild() []api.Curve {
	return grid([]uint64{0, 1, 3, api.MaxSlope - 1, api.MaxSlope, api.MaxSlope + 1, top}, []uint64{0, 1, 10, api.MaxTick - 1, api.MaxTick, api.MaxTick + 1, api.Never, top})
}

// lists are n of them, each of up to most curves of those.
func lists(r *rand.Rand, those []api.Curve, n, most int) [][]api.Curve {
	l := make([][]api.Curve, n)
	for i := range l {
		for range r.Intn(most + 1) {
			l[i] = append(l[i], those[r.Intn(len(those))])
		}
	}
	return l
}

func mixed(n int) [][]api.Curve {
	r := rand.New(rand.NewSource(4))
	l := append(lists(r, small(), n, 4), lists(r, wild(), n, 12)...)
	return append(l, lists(r, append(small(), wild()...), n, 6)...)
}

// far is a list whose Rests together are 1 more than the second number, by which it is late at that tick first.
func far(t uint64) ([]api.Curve, uint64) {
	// It is late just where t is more than the sum of the Rests by their Lengths.
	var l []api.Curve
	left, rests := t-1, uint64(0)
	for left > 0 {
		c := of(0, left, 1)
		if left >= api.MaxSlope {
			c = of(0, min(left/api.MaxSlope, api.MaxTick), api.MaxSlope)
		}
		l = append(l, c)
		left -= c.Length * c.Rest
		rests += c.Rest
	}
	return l, rests - 1
}

func number(n uint64) *big.Int { return new(big.Int).SetUint64(n) }

func product(a, b uint64) *big.Int { return new(big.Int).Mul(number(a), number(b)) }

// has is what they have at t, by big numbers.
func has(l []api.Curve, t uint64) *big.Int {
	sum := new(big.Int)
	for _, c := range l {
		if !written(c) {
			continue
		}
		sum.Add(sum, product(c.First, min(t, c.Length)))
		if t > c.Length {
			sum.Add(sum, product(c.Rest, t-c.Length))
		}
	}
	return sum
}

func isLate(l []api.Curve, rate, t uint64) bool { return has(l, t).Cmp(product(rate, t)) > 0 }

func whole(w wide.Wide) *big.Int {
	n := new(big.Int).Lsh(number(w.High), 64)
	return n.Add(n, number(w.Low))
}

// corners are those of the list, by the words alone.
func corners(l []api.Curve) []uint64 {
	at := []uint64{0}
	for _, c := range l {
		if written(c) && c.Length > 0 {
			at = append(at, c.Length)
		}
	}
	slices.Sort(at)
	return slices.Compact(at)
}

// rests are all Rests together.
func rests(l []api.Curve) uint64 {
	sum := uint64(0)
	for _, c := range l {
		if written(c) {
			sum += c.Rest
		}
	}
	return sum
}

// rates are those at which something could turn on that list.
func rates(l []api.Curve) []uint64 {
	at := []uint64{0, 1, 2, 3, 5, 8, api.MaxSlope - 1, api.MaxSlope, api.MaxSlope + 1, 5 * api.MaxSlope, api.Cap, top}
	for _, t := range append(corners(l), 1, api.Never-1) {
		if t > 0 {
			n := new(big.Int).Div(has(l, t), number(t)).Uint64()
			at = append(at, n, n+1, n+2, n+api.MaxSlope, n+api.MaxSlope+1, n+api.MaxSlope+2)
			if n > 0 {
				at = append(at, n-1)
			}
		}
	}
	slices.Sort(at)
	return slices.Compact(at)
}

func TestChapterExample(t *testing.T) { // P4.1, P4.2, P4.3
	l := []api.Curve{of(3, 10, 1), straight(2)}
	if w := At(l, 10); w != (wide.Wide{Low: 50}) {
		t.Errorf("at 10: %v", w)
	}
	if n := Late(l, 4); n != 1 || Kept(l, 4) {
		t.Errorf("late by 4: %d", n)
	}
	if n := Late(l, 5); n != api.Never || !Kept(l, 5) {
		t.Errorf("late by 5: %d", n)
	}
	if n, is := Spare(l, 5); n != 0 || !is {
		t.Errorf("spare of 5: %d %v", n, is)
	}
	if n, is := Spare(l, 6); n != 1 || !is {
		t.Errorf("spare of 6: %d %v", n, is)
	}
}

func TestAtExamples(t *testing.T) { // P4.1
	steep := straight(api.MaxSlope)
	for i, x := range []struct {
		l    []api.Curve
		at   uint64
		want wide.Wide
	}{
		{nil, 0, wide.Wide{}},
		{nil, top, wide.Wide{}},
		{[]api.Curve{{}}, 9, wide.Wide{}},
		{[]api.Curve{of(3, 10, 1)}, 0, wide.Wide{}},
		{[]api.Curve{of(3, 10, 1)}, 9, wide.Wide{Low: 27}},
		{[]api.Curve{of(3, 10, 1)}, 10, wide.Wide{Low: 30}},
		{[]api.Curve{of(3, 10, 1)}, 11, wide.Wide{Low: 31}},
		{[]api.Curve{of(3, 10, 1), of(3, 10, 1)}, 11, wide.Wide{Low: 62}},
		{[]api.Curve{of(0, 10, 4), of(1, 2, 0)}, 11, wide.Wide{Low: 6}},
		{[]api.Curve{of(4, 10, 4), of(4, 0, 4), straight(api.MaxSlope + 1), of(0, api.MaxTick+1, 1), straight(5)}, 3, wide.Wide{Low: 15}},
		{[]api.Curve{steep}, 1 << 42, wide.Wide{Low: api.Cap}},
		{[]api.Curve{steep}, 1<<42 + 1, wide.Wide{Low: api.Cap + api.MaxSlope}},
		{[]api.Curve{steep}, 1 << 44, wide.Wide{High: 1}},
		{[]api.Curve{steep, straight(1)}, top, wide.Wide{High: api.MaxSlope, Low: top - api.MaxSlope}},
	} {
		if w := At(x.l, x.at); w != x.want {
			t.Errorf("%d: %v", i, w)
		}
	}
}

func TestAtOfAll(t *testing.T) { // P4.1
	for _, l := range mixed(300) {
		at := []uint64{0, 1, 2, 3, 7, 9, 10, 1 << 42, api.Cap, api.Never - 1, api.Never, top}
		for _, c := range corners(l) {
			at = append(at, c, c+1, max(c, 1)-1)
		}
		for _, n := range at {
			if w := At(l, n); whole(w).Cmp(has(l, n)) != 0 {
				t.Fatalf("%v at %d: %v", l, n, w)
			}
		}
	}
}

func TestCornersExamples(t *testing.T) { // P4.1
	for i, x := range []struct {
		l    []api.Curve
		want []uint64
	}{
		{nil, []uint64{0}},
		{[]api.Curve{{}}, []uint64{0}},
		{[]api.Curve{straight(5)}, []uint64{0}},
		{[]api.Curve{of(3, 10, 1)}, []uint64{0, 10}},
		{[]api.Curve{of(3, 10, 1), of(1, 10, 3)}, []uint64{0, 10}},
		{[]api.Curve{of(3, 10, 1), of(0, 1, 2), straight(2), of(1, api.MaxTick, 2)}, []uint64{0, 1, 10, api.MaxTick}},
		{[]api.Curve{of(3, 10, 3), of(0, api.MaxTick+1, 2), of(api.MaxSlope+1, 4, 0), of(2, 5, 1)}, []uint64{0, 5}},
	} {
		if at := Corners(x.l); !slices.Equal(at, x.want) {
			t.Errorf("%d: %v", i, at)
		}
	}
}

func TestCornersOfAll(t *testing.T) { // P4.1
	for _, l := range mixed(500) {
		if at := Corners(l); !slices.Equal(at, corners(l)) {
			t.Fatalf("%v: %v", l, at)
		}
	}
}

func TestLateExamples(t *testing.T) { // P4.2
	for i, x := range []struct {
		l    []api.Curve
		rate uint64
		want uint64
	}{
		{nil, 0, api.Never},
		{nil, top, api.Never},
		{[]api.Curve{{}}, 0, api.Never},
		{[]api.Curve{straight(1)}, 0, 1},
		{[]api.Curve{of(0, 7, 1)}, 0, 8},
		{[]api.Curve{of(0, api.MaxTick, 1)}, 0, api.MaxTick + 1},
		{[]api.Curve{straight(api.MaxSlope)}, api.MaxSlope, api.Never},
		{[]api.Curve{straight(api.MaxSlope)}, api.MaxSlope - 1, 1},
		{[]api.Curve{straight(api.MaxSlope), straight(1)}, api.MaxSlope, 1},
		{[]api.Curve{straight(api.MaxSlope), straight(1)}, api.MaxSlope + 1, api.Never},
		{[]api.Curve{of(0, 10, 3)}, 2, 31},                             // at 30 it has all that 2 a tick give
		{[]api.Curve{of(0, 10, 4), of(0, 10, 4), of(8, 30, 0)}, 9, 12}, // between two corners
		{[]api.Curve{of(0, 10, 4), of(0, 10, 4), of(8, 20, 0)}, 12, api.Never},
		{[]api.Curve{of(1, 10, 8), of(4, 20, 0)}, 7, 15},
		{[]api.Curve{of(1, 10, 4), of(4, 20, 0)}, 5, 11}, // nothing ahead at the corner
		{[]api.Curve{of(4, 10, 3), of(0, 20, 2)}, 4, 31}, // behind all of them
		{[]api.Curve{of(4, 10, 5), of(9, 0, 9)}, 4, 11},
		{[]api.Curve{of(api.MaxSlope+1, 4, 0), of(2, 8, 2), of(5, 0, 0)}, 0, api.Never},
		{[]api.Curve{of(0, api.MaxTick, api.MaxSlope)}, api.MaxSlope - 1, api.MaxTick*api.MaxSlope + 1},
	} {
		if n := Late(x.l, x.rate); n != x.want {
			t.Errorf("%d: %d", i, n)
		}
		if Kept(x.l, x.rate) != (x.want == api.Never) {
			t.Errorf("%d: kept", i)
		}
	}
}

func TestLateTickByTick(t *testing.T) { // P4.2
	for _, l := range lists(rand.New(rand.NewSource(2)), small(), 2000, 4) {
		for rate := range uint64(12) {
			want := uint64(api.Never)
			for n := range uint64(8*5*4 + 10) { // one that is late from a greater slope on is so by then
				if isLate(l, rate, n) {
					want = n
					break
				}
			}
			if n := Late(l, rate); n != want {
				t.Fatalf("%v by %d: %d, want %d", l, rate, n, want)
			}
			if Kept(l, rate) != (want == api.Never) {
				t.Fatalf("%v by %d: kept", l, rate)
			}
		}
	}
}

func TestLateOfAll(t *testing.T) { // P4.2
	for _, l := range mixed(300) {
		for _, rate := range rates(l) {
			n := Late(l, rate)
			if n > api.Never || n < api.Never && !isLate(l, rate, n) || n == 0 {
				t.Fatalf("%v by %d: %d isn't late", l, rate, n)
			}
			for _, c := range append(corners(l), n-1) {
				if c < n && isLate(l, rate, c) {
					t.Fatalf("%v by %d: not %d, late at %d", l, rate, n, c)
				}
			}
			if Kept(l, rate) != (n == api.Never) {
				t.Fatalf("%v by %d: kept", l, rate)
			}
		}
	}
}

func TestLateFar(t *testing.T) { // P4.2, P4.5
	for _, at := range []uint64{2, 1 << 20, 1 << 60, api.Never - 2, api.Never - 1} {
		if l, rate := far(at); Late(l, rate) != at || Kept(l, rate) {
			t.Errorf("%d: %d", at, Late(l, rate))
		}
	}
	for _, at := range []uint64{api.Never, api.Never + 1, api.Never + 1<<60} {
		l, rate := far(at)
		if Late(l, rate) != api.Never || !Kept(l, rate) {
			t.Errorf("%d: %d", at, Late(l, rate))
		}
		if n, is := Spare(l, rate); n != 0 || !is {
			t.Errorf("%d: spare %d %v", at, n, is)
		}
		if !isLate(l, rate, at) || isLate(l, rate, at-1) || rests(l) != rate+1 {
			t.Errorf("%d: the list itself", at)
		}
	}
}

func TestLateNever(t *testing.T) { // P4.2, P4.5: no word holds the tick from which on they would be late
	for n := range uint64(40) {
		l := slices.Repeat([]api.Curve{of(0, api.MaxTick, api.MaxSlope)}, int(n)+9)
		rate := rests(l) - 1
		if Late(l, rate) != api.Never || !Kept(l, rate) {
			t.Errorf("%d: %d", len(l), Late(l, rate))
		}
		// A little is spare, as what comes from Never on doesn't count.
		want := rate - new(big.Int).Div(has(l, api.Never-1), number(api.Never-1)).Uint64() - 1
		if m, is := Spare(l, rate); m != want || !is {
			t.Errorf("%d: spare %d %v, want %d", len(l), m, is, want)
		}
	}
}

func TestSpareExamples(t *testing.T) { // P4.3
	for i, x := range []struct {
		l    []api.Curve
		rate uint64
		want uint64
		is   bool
	}{
		{nil, 0, 0, true},
		{nil, 7, 7, true},
		{nil, api.MaxSlope, api.MaxSlope, true},
		{nil, api.MaxSlope + 1, api.MaxSlope, true},
		{nil, top, api.MaxSlope, true},
		{[]api.Curve{straight(1)}, 0, 0, false},
		{[]api.Curve{straight(1)}, 1, 0, true},
		{[]api.Curve{straight(9)}, api.MaxSlope + 8, api.MaxSlope - 1, true},
		{[]api.Curve{straight(9)}, api.MaxSlope + 9, api.MaxSlope, true},
		{[]api.Curve{straight(9)}, api.MaxSlope + 10, api.MaxSlope, true},
		{[]api.Curve{of(3, 10, 1)}, 3, 0, true},
		{[]api.Curve{of(3, 10, 1)}, 2, 0, false},
		{[]api.Curve{of(0, 10, 3)}, 2, 0, false},
		{[]api.Curve{of(0, 10, 3)}, 3, 0, true},
		{[]api.Curve{of(0, 10, 3), of(3, 10, 0)}, 4, 1, true},
		{[]api.Curve{of(2, 10, 0), of(0, 3, 4)}, 5, 0, true},  // 48 at 10
		{[]api.Curve{of(2, 10, 0), of(0, 3, 4)}, 6, 1, true},  // 12 left at 10
		{[]api.Curve{of(2, 10, 0), of(0, 3, 4)}, 4, 0, false}, // 40 at 10
		{[]api.Curve{of(9, 0, 9), of(1, 5, 1)}, 3, 3, true},
	} {
		if n, is := Spare(x.l, x.rate); n != x.want || is != x.is {
			t.Errorf("%d: %d %v", i, n, is)
		}
	}
}

func TestSpareBeside(t *testing.T) { // P4.3, P4.7
	for _, l := range mixed(150) {
		for _, rate := range rates(l) {
			n, is := Spare(l, rate)
			if is != Kept(l, rate) || !is && n != 0 || n > api.MaxSlope {
				t.Fatalf("%v by %d: %d %v", l, rate, n, is)
			}
			if !is {
				continue
			}
			if !Kept(append([]api.Curve{straight(n)}, l...), rate) {
				t.Fatalf("%v by %d: %d is too much", l, rate, n)
			}
			if n < api.MaxSlope && Kept(append([]api.Curve{straight(n + 1)}, l...), rate) {
				t.Fatalf("%v by %d: %d is too little", l, rate, n)
			}
		}
	}
}

func TestSpareTickByTick(t *testing.T) { // P4.3
	for _, l := range lists(rand.New(rand.NewSource(3)), small(), 300, 4) {
		for rate := range uint64(30) {
			least, kept := int64(rate), true
			for n := uint64(1); n < 8*5*4+10; n++ {
				left := int64(rate*n) - has(l, n).Int64()
				kept = kept && left >= 0
				least = min(least, left/int64(n))
			}
			if !kept {
				least = 0
			}
			if n, is := Spare(l, rate); n != uint64(least) && rests(l) <= rate || is != kept {
				t.Fatalf("%v by %d: %d %v, want %d %v", l, rate, n, is, least, kept)
			}
		}
	}
}

func TestBelowExamples(t *testing.T) { // P4.4
	for i, x := range []struct {
		a, b api.Curve
		want bool
	}{
		{of(0, 0, 0), of(0, 0, 0), true},
		{of(0, 0, 0), of(0, 9, 1), true},
		{of(0, 9, 1), of(0, 0, 0), false},
		{of(3, 10, 1), of(3, 10, 1), true},
		{straight(2), straight(3), true},
		{straight(3), straight(2), false},
		{of(3, 10, 1), straight(3), true},
		{straight(1), of(3, 10, 1), true},
		{of(0, 10, 3), straight(3), true},
		{of(0, 10, 3), straight(2), false},      // it crosses at 30
		{of(0, 10, 4), of(4, 10, 3), false},     // and at 80
		{of(5, 10, 0), of(0, 9, 5), false},      // ahead of both corners
		{of(5, 10, 0), of(5, 9, 4), false},      // at the first one alone
		{of(5, 10, 0), of(4, 20, 5), false},     // at the first one, too
		{of(2, 20, 3), of(4, 10, 2), false},     // behind both
		{of(2, 20, 3), of(4, 10, 3), true},      // never
		{of(3, 10, 0), of(0, 0, 3), true},       // together up to a corner
		{of(0, 4, 0), of(0, 0, 1), false},       // one that may not be
		{of(0, 0, 0), of(1, 4, 1), false},       // nor may the other one
		{of(0, 0, 0), straight(top), false},     // nor this
		{straight(top), straight(top), false},   // nor both
		{of(2, 0, 1), straight(5), false},       // told in another way
		{straight(1), of(0, 1<<40+1, 1), false}, // too long
		{of(0, 1<<40, 1<<20), straight(1<<20 - 1), false},
		{of(0, 1<<40, 1<<20-1), of(1<<20, 1<<40, 1<<20-1), true},
		{of(0, 1<<40, 1<<20), of(1<<20, 1<<40, 1<<20-1), false},
	} {
		if Below(x.a, x.b) != x.want {
			t.Errorf("%d: %v", i, !x.want)
		}
	}
}

func TestBelowTickByTick(t *testing.T) { // P4.4
	for _, a := range small() {
		for _, b := range small() {
			want := written(a) && written(b)
			for n := range uint64(8*5 + 10) {
				want = want && has([]api.Curve{a}, n).Cmp(has([]api.Curve{b}, n)) <= 0
			}
			if Below(a, b) != want {
				t.Fatalf("%v %v: %v", a, b, !want)
			}
		}
	}
}

func TestBelowWild(t *testing.T) { // P4.4
	for _, a := range wild() {
		for _, b := range wild() {
			want := written(a) && written(b)
			for _, n := range append(corners([]api.Curve{a, b}), api.Never-1) { // they cross ahead of that, if ever
				want = want && has([]api.Curve{a}, n).Cmp(has([]api.Curve{b}, n)) <= 0
			}
			if Below(a, b) != want {
				t.Fatalf("%v %v: %v", a, b, !want)
			}
		}
	}
}

func TestCornersAreEnough(t *testing.T) { // P4.5
	for _, l := range mixed(200) {
		for _, rate := range rates(l) {
			want := rests(l) <= rate || !isLate(l, rate, api.Never-1)
			for _, c := range Corners(l) {
				want = want && !isLate(l, rate, c)
			}
			if Kept(l, rate) != want {
				t.Fatalf("%v by %d: %v", l, rate, !want)
			}
		}
	}
}

func TestKeptTogether(t *testing.T) { // P4.6
	r := rand.New(rand.NewSource(6))
	for _, l := range mixed(150) {
		for _, rate := range rates(l) {
			if !Kept(l, rate) {
				continue
			}
			for i := range l {
				if !Kept(slices.Concat(l[:i], l[i+1:]), rate) {
					t.Fatalf("%v by %d: not without %d", l, rate, i)
				}
			}
			if rate < top && !Kept(l, rate+1) || !Kept(l, top) {
				t.Fatalf("%v by %d: not at a greater rate", l, rate)
			}
			if below := lower(r, l); !Kept(below, rate) {
				t.Fatalf("%v by %d: not %v below it", l, rate, below)
			}
		}
	}
}

// lower is a list of curves below those, where one was found.
func lower(r *rand.Rand, l []api.Curve) []api.Curve {
	those := append(small(), wild()...)
	below := slices.Clone(l)
	for i, c := range l {
		if other := those[r.Intn(len(those))]; Below(other, c) {
			below[i] = other
		}
	}
	return below
}

func TestManyCurves(t *testing.T) { // P4.1, P4.2, P4.3: a corner for each one of a great many
	var l []api.Curve
	for n := range uint64(50000) {
		l = append(l, of(1, 100000-n, 2))
	}
	if at := Corners(l); len(at) != 50001 || !slices.IsSorted(at) {
		t.Errorf("%d corners", len(at))
	}
	if n := Late(l, 100000); n != api.Never {
		t.Errorf("%d", n)
	}
	if n := Late(l, 50000); n != 50002 {
		t.Errorf("%d", n)
	}
	if n, is := Spare(l, 100000); n != 0 || !is {
		t.Errorf("%d %v", n, is)
	}
}

func TestListsStay(t *testing.T) { // what is handed in stays, what is told is the caller's own, and the order counts for nothing
	for _, l := range mixed(50) {
		was := slices.Clone(l)
		turned := slices.Clone(l)
		slices.Reverse(turned)
		for _, rate := range []uint64{0, 3, api.MaxSlope, 3 * api.MaxSlope} {
			n, is := Spare(l, rate)
			m, also := Spare(turned, rate)
			if Late(l, rate) != Late(turned, rate) || n != m || is != also || At(l, rate) != At(turned, rate) {
				t.Fatalf("%v by %d: otherwise from behind", l, rate)
			}
		}
		at := Corners(l)
		for i := range at {
			at[i] = 77
		}
		if !slices.Equal(Corners(l), corners(l)) || !slices.Equal(l, was) {
			t.Fatalf("%v: isn't what it was", was)
		}
	}
}

func TestSumOfParts(t *testing.T) { // P4.1: of curves that may be it is what each has by itself, where those don't stop
	for _, l := range mixed(100) {
		for _, n := range []uint64{0, 1, 9, 10, 11, 1 << 41} {
			var sum wide.Wide
			for _, c := range l {
				if curve.May(c) {
					sum, _ = sum.Plus(wide.Wide{Low: curve.At(c, n)})
				}
			}
			if At(l, n) != sum {
				t.Fatalf("%v at %d", l, n)
			}
		}
	}
}
