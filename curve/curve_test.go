package curve

import (
	"math/big"
	"slices"
	"sort"
	"testing"

	"distributary/api"
)

const top = 1<<64 - 1

func of(first, length, rest uint64) api.Curve {
	return api.Curve{First: first, Length: length, Rest: rest}
}

// grid is each curve of such slopes and lengths, may it be or not.
func grid(slopes, lengths []uint64) []api.Curve {
	var l []api.Curve
	for _, first := range slopes {
		for _, length := range lengths {
			for _, rest := range slopes {
				l = append(l, of(first, length, rest))
			}
		}
	}
	return l
}

// small are curves, may they be or not, that can be gone up tick by tick.
func small() []api.Curve {
	return grid([]uint64{0, 1, 2, 3, 7}, []uint64{0, 1, 2, 5, 10})
}

// wild are curves at and beyond all limits.
func wild() []api.Curve {
	return grid(
		[]uint64{0, 1, 2, 5, api.MaxSlope - 1, api.MaxSlope, api.MaxSlope + 1, api.Cap - 1, api.Cap, api.Cap + 1, 1 << 63, top},
		[]uint64{0, 1, 2, 10, api.MaxTick - 1, api.MaxTick, api.MaxTick + 1, api.Cap, api.Never - 1, api.Never, top},
	)
}

func all() []api.Curve { return append(small(), wild()...) }

// written is DOC.md's 'It may be', word by word.
func written(c api.Curve) bool {
	if c.First > api.MaxSlope || c.Rest > api.MaxSlope || c.Length > api.MaxTick {
		return false
	}
	if c.Length == 0 {
		return c.First == 0
	}
	return c.First != c.Rest
}

// those are the curves of the list that may be.
func those(l []api.Curve) []api.Curve {
	return slices.DeleteFunc(l, func(c api.Curve) bool { return !written(c) })
}

// usual are curves that may be, at their limits and between.
func usual() []api.Curve {
	return those(append(small(), grid([]uint64{0, 1, 3, 255, api.MaxSlope - 1, api.MaxSlope}, []uint64{0, 1, 10, 1000, api.MaxTick - 1, api.MaxTick})...))
}

func whole(n uint64) *big.Int { return new(big.Int).SetUint64(n) }

// stopped is n, or Cap if n is more.
func stopped(n *big.Int) uint64 {
	if n.Cmp(whole(api.Cap)) > 0 {
		return api.Cap
	}
	return n.Uint64()
}

// has is what the curve has at t, by big numbers, stopped.
func has(c api.Curve, t uint64) uint64 {
	n := new(big.Int).Mul(whole(c.First), whole(min(t, c.Length)))
	if t > c.Length {
		n.Add(n, new(big.Int).Mul(whole(c.Rest), whole(t-c.Length)))
	}
	return stopped(n)
}

// first is the first tick below Never at which the curve has y at least, else Never: by halving what is left, as nothing falls.
func first(c api.Curve, y uint64) uint64 {
	low, high := uint64(0), uint64(api.Never)
	for low < high {
		if t := low + (high-low)/2; has(c, t) >= y {
			high = t
		} else {
			low = t + 1
		}
	}
	return low
}

// ticks are those at which something turns on that curve, with one tick to either side, rising.
func ticks(c api.Curve) []uint64 {
	l := []uint64{0, 1, 2, 3, 4, 9, 10, 11, 1000, api.MaxTick, 1 << 42, api.Cap, api.Never, top - 1, top}
	for _, t := range []uint64{c.Length, first(c, api.Cap)} {
		l = append(l, t)
		if t > 0 {
			l = append(l, t-1, t/2)
		}
		if t < top {
			l = append(l, t+1)
		}
	}
	slices.Sort(l)
	return slices.Compact(l)
}

// amounts are those at which something turns on that curve, with one grain to either side.
func amounts(c api.Curve) []uint64 {
	l := []uint64{0, 1, 2, 3, 7, 100, api.Cap - 1, api.Cap, api.Cap + 1, api.Never, top}
	for _, t := range ticks(c) {
		y := has(c, t)
		l = append(l, y, y+1)
		if y > 0 {
			l = append(l, y-1)
		}
	}
	return l
}

func TestKindExamples(t *testing.T) { // P3.1
	for _, x := range []struct {
		c                         api.Curve
		may, none, bent, straight bool
	}{
		{of(0, 0, 0), true, true, false, true},
		{of(0, 0, 1), true, false, false, true},
		{of(0, 0, api.MaxSlope), true, false, false, true},
		{of(3, 10, 1), true, false, true, false},
		{of(1, 10, 3), true, false, false, false},
		{of(0, 10, 1), true, false, false, false},
		{of(1, 10, 0), true, false, true, false},
		{of(1, 1, 0), true, false, true, false},
		{of(api.MaxSlope, api.MaxTick, api.MaxSlope-1), true, false, true, false},
		{of(api.MaxSlope-1, api.MaxTick, api.MaxSlope), true, false, false, false},
		// Told in another way than the one.
		{of(1, 0, 0), false, false, true, true},
		{of(1, 0, 1), false, false, false, true},
		{of(1, 0, 2), false, false, false, true},
		{of(2, 4, 2), false, false, false, false},
		{of(0, 4, 0), false, false, false, false},
		{of(0, 1, 0), false, false, false, false},
		// Too great.
		{of(0, 0, api.MaxSlope+1), false, false, false, true},
		{of(api.MaxSlope+1, 1, 0), false, false, true, false},
		{of(0, 1, api.MaxSlope+1), false, false, false, false},
		{of(api.MaxSlope+1, 0, 0), false, false, true, true},
		{of(1, api.MaxTick+1, 0), false, false, true, false},
		{of(0, api.MaxTick+1, 1), false, false, false, false},
		{of(top, top, top), false, false, false, false},
		{of(top, top, 0), false, false, true, false},
		{of(0, top, top), false, false, false, false},
	} {
		if May(x.c) != x.may || None(x.c) != x.none || Bent(x.c) != x.bent || Straight(x.c) != x.straight {
			t.Errorf("%v: may %v, none %v, bent %v, straight %v", x.c, May(x.c), None(x.c), Bent(x.c), Straight(x.c))
		}
	}
}

func TestKindAsWritten(t *testing.T) { // P3.1
	for _, c := range all() {
		if May(c) != written(c) {
			t.Errorf("%v may be: %v", c, May(c))
		}
		if None(c) != (c.First == 0 && c.Length == 0 && c.Rest == 0) {
			t.Errorf("%v is none: %v", c, None(c))
		}
		if Bent(c) != (c.First > c.Rest) {
			t.Errorf("%v is bent: %v", c, Bent(c))
		}
		if Straight(c) != (c.Length == 0) {
			t.Errorf("%v is straight: %v", c, Straight(c))
		}
	}
}

func TestAtExamples(t *testing.T) { // P3.2
	for _, x := range []struct {
		c       api.Curve
		t, want uint64
	}{
		{of(3, 10, 1), 0, 0},
		{of(3, 10, 1), 4, 12},
		{of(3, 10, 1), 9, 27},
		{of(3, 10, 1), 10, 30},
		{of(3, 10, 1), 11, 31},
		{of(3, 10, 1), 12, 32},
		{of(1, 10, 3), 9, 9},
		{of(1, 10, 3), 10, 10},
		{of(1, 10, 3), 11, 13},
		{of(2, 5, 0), 4, 8},
		{of(2, 5, 0), 5, 10},
		{of(2, 5, 0), 6, 10},
		{of(2, 5, 0), top, 10},
		{of(0, 5, 2), 5, 0},
		{of(0, 5, 2), 6, 2},
		{of(0, 0, 2), 1, 2},
		{of(0, 0, 0), top, 0},
		// It stops at Cap, in the first stretch, in the second one, in both together.
		{of(0, 0, 1), api.Cap - 1, api.Cap - 1},
		{of(0, 0, 1), api.Cap, api.Cap},
		{of(0, 0, 1), api.Cap + 1, api.Cap},
		{of(0, 0, 1), top, api.Cap},
		{of(0, 0, api.MaxSlope), 1<<42 - 1, api.Cap - api.MaxSlope},
		{of(0, 0, api.MaxSlope), 1 << 42, api.Cap},
		{of(0, 0, api.MaxSlope), 1<<44 + 1, api.Cap},
		{of(api.MaxSlope, api.MaxTick, 0), top, 1 << 60},
		{of(api.MaxSlope, api.MaxTick, 1), api.MaxTick + 3<<60 - 1, api.Cap - 1},
		{of(api.MaxSlope, api.MaxTick, 1), api.MaxTick + 3<<60, api.Cap},
		{of(api.MaxSlope, api.MaxTick, 1), api.MaxTick + 3<<60 + 1, api.Cap},
		// Such as may not be have something, too.
		{of(9, 0, 2), 3, 6},
		{of(2, 4, 2), 5, 10},
		{of(0, 4, 0), 5, 0},
		{of(1, 1<<61, 0), top, 1 << 61},
		{of(1, top, 0), top, api.Cap},
		{of(top, 1, 0), 1, api.Cap},
		{of(top, top, top), 0, 0},
		{of(top, top, top), 2, api.Cap},
		{of(0, top, top), top, 0},
		{of(0, top-1, top), top, api.Cap},
		{of(0, top-1, 5), top, 5},
	} {
		if y := At(x.c, x.t); y != x.want {
			t.Errorf("%v at %d: %d, not %d", x.c, x.t, y, x.want)
		}
	}
}

func TestAtBigNumbers(t *testing.T) { // P3.2
	for _, c := range all() {
		for _, n := range ticks(c) {
			if y := At(c, n); y != has(c, n) {
				t.Errorf("%v at %d: %d, not %d", c, n, y, has(c, n))
			}
		}
	}
}

func TestAtTickByTick(t *testing.T) { // P3.2
	for _, c := range small() {
		y := uint64(0)
		for n := range uint64(40) {
			if At(c, n) != y {
				t.Errorf("%v at %d: %d, not %d", c, n, At(c, n), y)
			}
			if n < c.Length {
				y += c.First
			} else {
				y += c.Rest
			}
		}
	}
}

func TestReachExamples(t *testing.T) { // P3.2
	for _, x := range []struct {
		c       api.Curve
		y, want uint64
	}{
		{of(3, 10, 1), 0, 0},
		{of(3, 10, 1), 1, 1},
		{of(3, 10, 1), 12, 4},
		{of(3, 10, 1), 13, 5},
		{of(3, 10, 1), 27, 9},
		{of(3, 10, 1), 28, 10},
		{of(3, 10, 1), 30, 10},
		{of(3, 10, 1), 31, 11},
		{of(3, 10, 1), 32, 12},
		{of(1, 10, 3), 10, 10},
		{of(1, 10, 3), 11, 11},
		{of(1, 10, 3), 13, 11},
		{of(1, 10, 3), 14, 12},
		{of(2, 5, 0), 10, 5},
		{of(2, 5, 0), 11, api.Never},
		{of(0, 5, 2), 0, 0},
		{of(0, 5, 2), 1, 6},
		{of(0, 5, 2), 2, 6},
		{of(0, 5, 2), 3, 7},
		{of(0, 0, 0), 0, 0},
		{of(0, 0, 0), 1, api.Never},
		{of(0, 0, 3), 3, 1},
		{of(0, 0, 3), 4, 2},
		// What stops at Cap has no more.
		{of(0, 0, 1), api.Cap - 1, api.Cap - 1},
		{of(0, 0, 1), api.Cap, api.Cap},
		{of(0, 0, 1), api.Cap + 1, api.Never},
		{of(0, 0, 1), top, api.Never},
		{of(0, 0, api.MaxSlope), api.Cap, 1 << 42},
		{of(0, 0, api.MaxSlope), api.Cap - api.MaxSlope, 1<<42 - 1},
		{of(0, 0, api.MaxSlope), api.Cap - api.MaxSlope + 1, 1 << 42},
		{of(0, api.MaxTick, 1), api.Cap, api.Cap + api.MaxTick},
		{of(api.MaxSlope, api.MaxTick, 0), 1 << 60, api.MaxTick},
		{of(api.MaxSlope, api.MaxTick, 0), 1<<60 + 1, api.Never},
		{of(api.MaxSlope, api.MaxTick, 1), 1<<60 + 1, api.MaxTick + 1},
		{of(api.MaxSlope, api.MaxTick, 1), api.Cap, api.MaxTick + 3<<60},
		// Such as may not be.
		{of(9, 0, 2), 3, 2},
		{of(2, 4, 2), 9, 5},
		{of(0, 4, 0), 1, api.Never},
		{of(top, 1, 0), api.Cap, 1},
		{of(top, top, top), 1, 1},
		{of(1, top, 0), api.Cap, api.Cap},
		{of(1, top, 0), api.Cap + 1, api.Never},
		// What would be reached at Never or behind it.
		{of(0, api.Never-2, 1), 1, api.Never - 1},
		{of(0, api.Never-1, 1), 1, api.Never},
		{of(0, api.Never, 1), 1, api.Never},
		{of(0, api.Never, 1), 0, 0},
		{of(0, top, 1), 5, api.Never},
		{of(0, top, 1), api.Cap, api.Never},
	} {
		if n := Reach(x.c, x.y); n != x.want {
			t.Errorf("%v reaches %d at %d, not %d", x.c, x.y, n, x.want)
		}
	}
}

func TestReachBigNumbers(t *testing.T) { // P3.2
	for _, c := range all() {
		for _, y := range amounts(c) {
			if n := Reach(c, y); n != first(c, y) {
				t.Errorf("%v reaches %d at %d, not %d", c, y, n, first(c, y))
			}
		}
	}
}

func TestReachTickByTick(t *testing.T) { // P3.2
	const last = 60
	for _, c := range small() {
		for y := range uint64(40) {
			want := uint64(sort.Search(last, func(n int) bool { return At(c, uint64(n)) >= y }))
			if want == last { // within so many ticks a curve that rises at all has more
				want = api.Never
			}
			if n := Reach(c, y); n != want {
				t.Errorf("%v reaches %d at %d, not %d", c, y, n, want)
			}
		}
	}
}

func TestSteepest(t *testing.T) { // P3.3
	for _, x := range []struct {
		c    api.Curve
		want uint64
	}{
		{of(3, 10, 1), 3},
		{of(1, 10, 3), 3},
		{of(3, 10, 0), 3},
		{of(0, 10, 3), 3},
		{of(0, 0, 7), 7},
		{of(0, 0, 0), 0},
		{of(9, 0, 2), 2},
		{of(9, 0, 0), 0},
		{of(9, 1, 0), 9},
		{of(2, 4, 2), 2},
		{of(api.MaxSlope, api.MaxTick, 0), api.MaxSlope},
		{of(top, 1, 1), top},
		{of(1, 1, top), top},
		{of(top, 0, 1), 1},
	} {
		if n := Steepest(x.c); n != x.want {
			t.Errorf("%v: %d, not %d", x.c, n, x.want)
		}
	}
}

func TestBurstExamples(t *testing.T) { // P3.3
	for _, x := range []struct {
		c    api.Curve
		want uint64
		is   bool
	}{
		{of(3, 10, 1), 20, true},
		{of(3, 10, 0), 30, true},
		{of(3, 1, 2), 1, true},
		{of(1, 10, 3), 0, false},
		{of(0, 10, 3), 0, false},
		{of(0, 0, 3), 0, false},
		{of(0, 0, 0), 0, false},
		{of(2, 4, 2), 0, false},
		{of(api.MaxSlope, api.MaxTick, 0), 1 << 60, true},
		{of(api.MaxSlope, api.MaxTick, api.MaxSlope-1), api.MaxTick, true},
		// Such as may not be: one without a Length has no more at 0, others stop.
		{of(3, 0, 1), 0, true},
		{of(1, api.Cap-1, 0), api.Cap - 1, true},
		{of(1, api.Cap, 0), api.Cap, true},
		{of(1, api.Cap+1, 0), api.Cap, true},
		{of(top, 1, top-1), 1, true},
		{of(top, 1, 1), api.Cap, true},
		{of(top, top, 0), api.Cap, true},
		{of(top-1, top, top), 0, false},
	} {
		if n, is := Burst(x.c); n != x.want || is != x.is {
			t.Errorf("%v: %d %v, not %d %v", x.c, n, is, x.want, x.is)
		}
	}
}

func TestBurstBackwards(t *testing.T) { // P3.3
	for _, c := range all() {
		want, is := uint64(0), c.First > c.Rest
		if is { // what it has at the corner, less what Rest alone would have made there
			n := new(big.Int).Mul(whole(c.First), whole(c.Length))
			want = stopped(n.Sub(n, new(big.Int).Mul(whole(c.Rest), whole(c.Length))))
		}
		if n, yes := Burst(c); n != want || yes != is {
			t.Errorf("%v: %d %v, not %d %v", c, n, yes, want, is)
		}
	}
}

func TestScaleExamples(t *testing.T) { // P3.4
	for _, x := range []struct {
		c    api.Curve
		a, b uint64
		want api.Curve
		e    api.Errno
	}{
		{of(6, 10, 4), 1, 2, of(3, 10, 2), api.OK},
		{of(4, 10, 6), 1, 2, of(2, 10, 3), api.OK},
		{of(7, 10, 4), 1, 2, of(3, 10, 2), api.OK},
		{of(6, 10, 4), 1, 1, of(6, 10, 4), api.OK},
		{of(6, 10, 4), 5, 5, of(6, 10, 4), api.OK},
		{of(6, 10, 4), 3, 1, of(18, 10, 12), api.OK},
		{of(0, 0, 4), 3, 2, of(0, 0, 6), api.OK},
		{of(0, 0, 4), 1, 5, of(0, 0, 0), api.OK},
		{of(0, 0, 0), 1, 2, of(0, 0, 0), api.OK},
		{of(0, 0, 0), top, 1, of(0, 0, 0), api.OK},
		{of(0, 9, 4), 1, 4, of(0, 9, 1), api.OK},
		// Slopes that become the same.
		{of(5, 10, 4), 1, 2, of(0, 0, 2), api.OK},
		{of(4, 10, 5), 1, 2, of(0, 0, 2), api.OK},
		{of(0, 10, 4), 1, 5, of(0, 0, 0), api.OK},
		{of(1, 10, 0), 1, 2, of(0, 0, 0), api.OK},
		{of(6, 10, 4), 0, 7, of(0, 0, 0), api.OK},
		// One that becomes too great, or just not; both, and then the same.
		{of(1<<19, 4, 1), 2, 1, of(api.MaxSlope, 4, 2), api.OK},
		{of(1<<19+1, 4, 1), 2, 1, of(0, 0, 0), api.ErrCurve},
		{of(1, 4, 1<<19+1), 2, 1, of(0, 0, 0), api.ErrCurve},
		{of(0, 0, 1<<19+1), 2, 1, of(0, 0, 0), api.ErrCurve},
		{of(1<<19, 4, 1<<19-1), 3, 1, of(0, 0, 0), api.ErrCurve},
		{of(2, 4, 1), top, 1, of(0, 0, 0), api.ErrCurve},
		{of(2, 4, 1), top, top, of(2, 4, 1), api.OK},
		{of(api.MaxSlope, 4, 1), top - 1, top, of(api.MaxSlope-1, 4, 0), api.OK},
		// One that may not be, and b of 0; that it may not be is told first.
		{of(1, 4, 1), 1, 1, of(0, 0, 0), api.ErrCurve},
		{of(1, 0, 4), 1, 1, of(0, 0, 0), api.ErrCurve},
		{of(0, 4, 0), 1, 1, of(0, 0, 0), api.ErrCurve},
		{of(api.MaxSlope+1, 4, 1), 1, 2, of(0, 0, 0), api.ErrCurve},
		{of(2, api.MaxTick+1, 1), 1, 1, of(0, 0, 0), api.ErrCurve},
		{of(2, 4, 1), 1, 0, of(0, 0, 0), api.ErrArg},
		{of(2, 4, 1), 0, 0, of(0, 0, 0), api.ErrArg},
		{of(0, 0, 0), 1, 0, of(0, 0, 0), api.ErrArg},
		{of(1, 4, 1), 1, 0, of(0, 0, 0), api.ErrCurve},
	} {
		if c, e := Scale(x.c, x.a, x.b); c != x.want || e != x.e {
			t.Errorf("%v by %d / %d: %v %d, not %v %d", x.c, x.a, x.b, c, e, x.want, x.e)
		}
	}
}

// scaled is what Scale is to tell, by big numbers.
func scaled(c api.Curve, a, b uint64) (api.Curve, api.Errno) {
	if !written(c) {
		return api.Curve{}, api.ErrCurve
	}
	if b == 0 {
		return api.Curve{}, api.ErrArg
	}
	part := func(n uint64) uint64 {
		p := new(big.Int).Mul(whole(n), whole(a))
		return stopped(p.Div(p, whole(b)))
	}
	first, rest := part(c.First), part(c.Rest)
	if first > api.MaxSlope || rest > api.MaxSlope {
		return api.Curve{}, api.ErrCurve
	}
	if first == rest {
		return of(0, 0, rest), api.OK
	}
	return of(first, c.Length, rest), api.OK
}

func TestScaleBigNumbers(t *testing.T) { // P3.4
	parts := []uint64{0, 1, 2, 3, 255, 1<<20 - 1, 1 << 20, 1<<20 + 1, 1 << 44, api.Cap, top - 1, top}
	for _, c := range all() {
		for _, a := range parts {
			for _, b := range parts {
				got, e := Scale(c, a, b)
				if want, is := scaled(c, a, b); got != want || e != is {
					t.Errorf("%v by %d / %d: %v %d, not %v %d", c, a, b, got, e, want, is)
				}
				if !May(got) {
					t.Errorf("%v by %d / %d: %v, which may not be", c, a, b, got)
				}
			}
		}
	}
}

func TestThereAndBack(t *testing.T) { // P3.5
	for _, c := range usual() {
		for _, y := range amounts(c) {
			n := Reach(c, y)
			if n == api.Never {
				if y <= At(c, api.Never-1) {
					t.Errorf("%v has %d, and reaches it never", c, y)
				}
				continue
			}
			if At(c, n) < y || n > 0 && At(c, n-1) >= y {
				t.Errorf("%v reaches %d at %d, and has there %d", c, y, n, At(c, n))
			}
		}
		for _, n := range ticks(c) {
			back := Reach(c, At(c, n))
			if back > n {
				t.Errorf("%v has %d at %d, and reaches it at %d", c, At(c, n), n, back)
			}
			if steep := n == 0 || At(c, n) > At(c, n-1); steep && back != n {
				t.Errorf("%v is steep at %d, and reaches what it has there at %d", c, n, back)
			}
		}
	}
}

func TestGrows(t *testing.T) { // P3.6
	for _, c := range usual() {
		if At(c, 0) != 0 {
			t.Errorf("%v of 0 is %d", c, At(c, 0))
		}
		l := ticks(c)
		for i, n := range l {
			if i > 0 && At(c, n) < At(c, l[i-1]) {
				t.Errorf("%v falls from %d to %d", c, l[i-1], n)
			}
			if n == top {
				continue
			}
			if now, next := At(c, n), At(c, n+1); next < now || next-now > Steepest(c) {
				t.Errorf("%v has %d at %d, and %d a tick behind", c, now, n, next)
			}
		}
	}
}

func TestTwoStretches(t *testing.T) { // P3.7
	bent, sagging := 0, 0
	for _, c := range usual() {
		for _, a := range ticks(c) {
			for _, b := range ticks(c) {
				if a > top-b {
					continue
				}
				apart, one := stopped(new(big.Int).Add(whole(At(c, a)), whole(At(c, b)))), At(c, a+b)
				if Bent(c) && apart < one || !Bent(c) && apart > one {
					t.Errorf("%v: %d and %d apart have %d, as one %d", c, a, b, apart, one)
				}
				if apart > one {
					bent++
				}
				if apart < one {
					sagging++
				}
			}
		}
	}
	if bent == 0 || sagging == 0 { // else no stretch lay over a corner
		t.Errorf("%d, %d", bent, sagging)
	}
}

// alike is whether both have the same at 0, at both corners, and at the ticks behind these.
func alike(a, b api.Curve) bool {
	for _, corner := range []uint64{0, a.Length, b.Length} {
		if At(a, corner) != At(b, corner) || At(a, corner+1) != At(b, corner+1) {
			return false
		}
	}
	return true
}

func TestOneWay(t *testing.T) { // P3.8
	var may []api.Curve
	for _, c := range append(small(), grid([]uint64{0, 1, api.MaxSlope - 1, api.MaxSlope, api.MaxSlope + 1}, []uint64{0, 1, 10, api.MaxTick - 1, api.MaxTick})...) {
		if May(c) {
			may = append(may, c)
		}
	}
	if len(may) < 100 {
		t.Fatalf("%d curves may be", len(may))
	}
	for _, a := range may {
		for _, b := range may {
			if alike(a, b) != (a == b) {
				t.Errorf("%v and %v are alike: %v", a, b, alike(a, b))
			}
		}
	}
}
