package run

import (
	"math/big"
	"math/rand"
	"reflect"
	"slices"
	"testing"

	"distributary/api"
	"distributary/curve"
)

const top = 1<<64 - 1

func of(first, length, rest uint64) api.Curve {
	return api.Curve{First: first, Length: length, Rest: rest}
}

// written is DOC.md's 'It may be', word by word.
func written(c api.Curve) bool {
	if c.First > api.MaxSlope || c.Rest > api.MaxSlope || c.Length > api.MaxTick {
		return false
	}
	if c.Length == 0 {
		return c.First == 0
	}
	return c.First != c.Rest
}

// grid is each curve of such slopes and lengths, may it be or not.
func grid(slopes, lengths []uint64) []api.Curve {
	var l []api.Curve
	for _, first := range slopes {
		for _, length := range lengths {
			for _, rest := range slopes {
				l = append(l, of(first, length, rest))
			}
		}
	}
	return l
}

// those are the curves of the list that may be.
func those(l []api.Curve) []api.Curve {
	return slices.DeleteFunc(l, func(c api.Curve) bool { return !written(c) })
}

// small are curves of both kinds whose runs can be gone up tick by tick; straight ones and none are among them.
func small() []api.Curve { return those(grid([]uint64{0, 1, 2, 7}, []uint64{0, 1, 5, 12})) }

// wild are curves of both kinds at all limits.
func wild() []api.Curve {
	return those(grid([]uint64{0, 1, 3, api.MaxSlope - 1, api.MaxSlope}, []uint64{0, 1, 10, api.MaxTick - 1, api.MaxTick}))
}

func number(n uint64) *big.Int { return new(big.Int).SetUint64(n) }

func sum(a, b *big.Int) *big.Int { return new(big.Int).Add(a, b) }

func less(a, b *big.Int) *big.Int { return new(big.Int).Sub(a, b) }

func times(a uint64, b *big.Int) *big.Int { return new(big.Int).Mul(number(a), b) }

// stopped is n, or Cap if n is more.
func stopped(n *big.Int) uint64 {
	if n.Cmp(number(api.Cap)) > 0 {
		return api.Cap
	}
	return n.Uint64()
}

// grains are what a curve has at so many ticks, without stopping.
func grains(c api.Curve, ticks *big.Int) *big.Int {
	length := number(c.Length)
	if ticks.Cmp(length) <= 0 {
		return times(c.First, ticks)
	}
	return sum(times(c.First, length), times(c.Rest, less(ticks, length)))
}

// start is where a copy starts, and from what on.
type start struct{ x, y uint64 }

// list are all copies of a run, as the chapter's words have them.
type list struct {
	c   api.Curve
	all []start
}

func (l *list) start(x, y uint64) {
	l.all = append(l.all, start{max(min(x, api.Never), l.last()), min(y, api.Cap)})
}

func (l *list) last() uint64 {
	if len(l.all) == 0 {
		return 0
	}
	return l.all[len(l.all)-1].x
}

// d is D, what all copies have at least at t, which isn't ahead of the last start; without stopping.
func (l *list) d(t *big.Int) *big.Int {
	var least *big.Int
	for _, s := range l.all {
		has := sum(number(s.y), grains(l.c, less(t, number(s.x))))
		if least == nil || has.Cmp(least) < 0 {
			least = has
		}
	}
	return least
}

func (l *list) at(t uint64) uint64 {
	if len(l.all) == 0 {
		return 0
	}
	return stopped(l.d(number(max(t, l.last()))))
}

// e is E at t, by DOC.md's words ('Owed, once').
func (l *list) e(t uint64) uint64 {
	if len(l.all) == 0 || l.c.First > l.c.Rest {
		return l.at(t)
	}
	length := number(l.c.Length)
	return stopped(less(l.d(sum(number(max(t, l.last())), length)), times(l.c.First, length)))
}

// first is the first tick below Never, from the last start on, at which y is there at least, else Never: by halving what is left, as nothing falls.
func (l *list) first(y uint64, at func(t uint64) uint64) uint64 {
	if len(l.all) == 0 && y == 0 {
		return 0
	}
	low, high := l.last(), uint64(api.Never)
	for low < high {
		if t := low + (high-low)/2; at(t) >= y {
			high = t
		} else {
			low = t + 1
		}
	}
	return low
}

// isFirst is whether n is that tick, which is asked quicker.
func (l *list) isFirst(n, y uint64, at func(t uint64) uint64) bool {
	if len(l.all) == 0 && y == 0 {
		return n == 0
	}
	if n < l.last() || n > api.Never {
		return false
	}
	return (n == api.Never || at(n) >= y) && (n == l.last() || at(n-1) < y)
}

// beside are the numbers of the list, and those one less and one more, as far as there are any; rising.
func beside(l ...uint64) []uint64 {
	var all []uint64
	for _, n := range l {
		all = append(all, n)
		if n > 0 {
			all = append(all, n-1)
		}
		if n < top {
			all = append(all, n+1)
		}
	}
	slices.Sort(all)
	return slices.Compact(all)
}

// ticks are those at which something turns on the run.
func (l *list) ticks() []uint64 {
	at := []uint64{0, 10, api.MaxTick, api.Cap, api.Never, top}
	for _, s := range l.all {
		at = append(at, s.x, s.x+l.c.Length, s.x+l.c.Length/2)
	}
	return beside(append(at, l.first(api.Cap, l.at), l.first(api.Cap, l.e))...)
}

// from are the ticks of that list from the last start on.
func (l *list) from(ticks []uint64) []uint64 {
	return slices.DeleteFunc(slices.Clone(ticks), func(t uint64) bool { return t < l.last() })
}

// amounts are those at which something turns on the run.
func (l *list) amounts() []uint64 {
	y := []uint64{0, 7, 100, api.Cap, api.Never, top}
	for _, t := range l.ticks() {
		y = append(y, l.at(t), l.e(t))
	}
	return beside(y...)
}

// made is a run of that curve, with such copies, and the words' own list of them.
func made(t *testing.T, c api.Curve, all ...start) (*Run, *list) {
	t.Helper()
	r := New(c)
	if r == nil {
		t.Fatalf("%v: none", c)
	}
	l := &list{c: c}
	for _, s := range all {
		r.Start(s.x, s.y)
		l.start(s.x, s.y)
	}
	return r, l
}

// amount is one to start from at x: from nothing up to more than E has there.
func amount(chance *rand.Rand, l *list, x uint64) uint64 {
	has, e := l.at(x), l.e(x)
	switch chance.Intn(9) {
	case 0:
		return has
	case 1:
		return has - min(has, uint64(chance.Intn(20)))
	case 2:
		return has / 2
	case 3:
		return e
	case 4:
		return e + uint64(chance.Intn(20))
	case 5, 6:
		return e - min(e, 1+uint64(chance.Intn(3)))
	}
	return has + uint64(chance.Int63n(int64(e-has)+1))
}

// some are up to n starts of a run of that curve; far ones go to all limits.
func some(chance *rand.Rand, c api.Curve, n int, far bool) []start {
	l := &list{c: c}
	given := []start{}
	for range chance.Intn(n + 1) {
		x := l.last() + uint64(chance.Intn(5))
		if chance.Intn(4) == 0 {
			x = l.last() + uint64(chance.Int63n(int64(c.Length+8)))
		}
		if far && chance.Intn(8) == 0 {
			x = l.last() + uint64(chance.Int63())>>chance.Intn(50)
		}
		if far && chance.Intn(12) == 0 {
			x = api.Never - 30 + uint64(chance.Intn(40))
		}
		if chance.Intn(8) == 0 {
			x = l.last() - min(l.last(), uint64(chance.Intn(9)))
		}
		y := amount(chance, l, x)
		if far && chance.Intn(6) == 0 {
			y = chance.Uint64() >> chance.Intn(64)
		}
		given = append(given, start{x, y})
		l.start(x, y)
	}
	return given
}

// eachRun goes over many runs, of small curves and at all limits.
func eachRun(t *testing.T, do func(r *Run, l *list)) {
	t.Helper()
	chance := rand.New(rand.NewSource(7))
	for _, c := range small() {
		for range 8 {
			do(made(t, c, some(chance, c, 6, false)...))
		}
	}
	for _, c := range wild() {
		for range 5 {
			do(made(t, c, some(chance, c, 6, true)...))
		}
	}
}

// holds checks a run against all its copies, at all that turns on it.
func holds(t *testing.T, r *Run, l *list) {
	t.Helper()
	if x, is := r.Last(); x != l.last() || is != (len(l.all) > 0) || r.Many() != len(l.all) || r.Curve() != l.c {
		t.Fatalf("%v: %d %v, %d of %v", l, x, is, r.Many(), r.Curve())
	}
	for _, n := range l.ticks() {
		if r.At(n) != l.at(n) || r.Ahead(n) != l.e(n) {
			t.Fatalf("%v at %d: %d %d, not %d %d", l, n, r.At(n), r.Ahead(n), l.at(n), l.e(n))
		}
	}
	for _, y := range l.amounts() {
		if !l.isFirst(r.Reach(y), y, l.at) || !l.isFirst(r.Eligible(y), y, l.e) {
			t.Fatalf("%v: %d at %d, eligible at %d, not %d %d", l, y, r.Reach(y), r.Eligible(y), l.first(y, l.at), l.first(y, l.e))
		}
	}
}

func TestChapterExamples(t *testing.T) { // P7.1, P7.2, P7.3
	s := New(of(1, 10, 4))
	s.Start(0, 0)
	if s.Reach(18) != 12 || s.Eligible(18) != 5 || s.Ahead(5) != 20 || s.Ahead(4) != 16 || s.Eligible(16) != 4 || s.Eligible(17) != 5 {
		t.Errorf("18 at %d, eligible at %d", s.Reach(18), s.Eligible(18))
	}
	b := New(of(4, 10, 1))
	b.Start(0, 0)
	if b.Reach(18) != 5 || b.Eligible(18) != 5 || b.Ahead(5) != 20 || b.At(5) != 20 || b.Eligible(16) != 4 {
		t.Errorf("18 at %d, eligible at %d", b.Reach(18), b.Eligible(18))
	}
}

func TestNewExamples(t *testing.T) { // P7.1
	for i, x := range []struct {
		c  api.Curve
		is bool
	}{
		{of(0, 0, 0), true}, // none
		{of(0, 0, 5), true}, // a straight one
		{of(0, 0, api.MaxSlope), true},
		{of(3, 10, 1), true}, // bent ones
		{of(1, 1, 0), true},
		{of(api.MaxSlope, api.MaxTick, 0), true},
		{of(1, 10, 3), true}, // sagging ones
		{of(0, 1, 1), true},
		{of(api.MaxSlope-1, api.MaxTick, api.MaxSlope), true},
		{of(1, 0, 0), false}, // with a First that is nowhere
		{of(3, 0, 1), false},
		{of(1, 0, 3), false},
		{of(1, 0, 1), false},
		{of(3, 10, 3), false}, // straight ones, told in another way
		{of(0, 10, 0), false},
		{of(0, 0, api.MaxSlope+1), false},
		{of(api.MaxSlope+1, 10, 1), false},
		{of(1, 10, api.MaxSlope+1), false},
		{of(2, api.MaxTick+1, 1), false},
		{of(1, api.MaxTick+1, 2), false},
		{of(top, top, 0), false},
		{of(0, top, top), false},
	} {
		r := New(x.c)
		if (r != nil) != x.is {
			t.Errorf("%d: %v", i, r)
		}
		if r.Curve() != x.c && x.is || r.Curve() != (api.Curve{}) && !x.is {
			t.Errorf("%d: its curve is %v", i, r.Curve())
		}
	}
}

func TestNewOfAll(t *testing.T) { // P7.1
	slopes := []uint64{0, 1, 2, 5, api.MaxSlope - 1, api.MaxSlope, api.MaxSlope + 1, api.Cap, top}
	lengths := []uint64{0, 1, 10, api.MaxTick, api.MaxTick + 1, api.Never, top}
	for _, c := range grid(slopes, lengths) {
		r := New(c)
		if (r != nil) != written(c) || r != nil && (r.Curve() != c || r.Many() != 0) {
			t.Errorf("%v: %v", c, r)
		}
	}
}

// noCopies checks what a run without copies tells.
func noCopies(t *testing.T, r *Run, c api.Curve) {
	t.Helper()
	for _, n := range []uint64{0, 1, 10, api.Cap, api.Never, top} {
		if r.At(n) != 0 || r.Ahead(n) != 0 {
			t.Errorf("at %d: %d %d", n, r.At(n), r.Ahead(n))
		}
		if n > 0 && (r.Reach(n) != api.Never || r.Eligible(n) != api.Never) {
			t.Errorf("%d at %d, eligible at %d", n, r.Reach(n), r.Eligible(n))
		}
	}
	if r.Reach(0) != 0 || r.Eligible(0) != 0 {
		t.Errorf("0 at %d, eligible at %d", r.Reach(0), r.Eligible(0))
	}
	if x, is := r.Last(); x != 0 || is || r.Many() != 0 {
		t.Errorf("%d started, the last one at %d", r.Many(), x)
	}
	if r.Curve() != c {
		t.Errorf("its curve is %v, not %v", r.Curve(), c)
	}
}

func TestWithoutCopies(t *testing.T) { // P7.1, P7.2, P7.3, P7.4
	for _, c := range append(small(), wild()...) {
		r, _ := made(t, c)
		noCopies(t, r, c)
		noCopies(t, r.Copy(), c)
		other := r.Copy()
		other.Start(5, 7) // one that was made, though it has no copies: they may start
		if other.At(5) != 7 || other.Many() != 1 {
			t.Errorf("%v: %d", c, other.At(5))
		}
		noCopies(t, r, c)
	}
}

func TestNobodyMade(t *testing.T) { // P7.1, P7.2, P7.3, P7.4
	var none *Run
	none.Start(1, 1)
	noCopies(t, none, api.Curve{})
	if none.Copy() != nil {
		t.Error("a copy of nil")
	}
	zero := &Run{}
	zero.Start(1, 1)
	zero.Start(7, 0)
	noCopies(t, zero, api.Curve{})
	same := zero.Copy()
	if same == nil || same == zero {
		t.Fatal("no copy")
	}
	same.Start(1, 1)
	noCopies(t, same, api.Curve{})
	if again := same.Copy(); again == nil || again == same {
		t.Error("no copy of the copy")
	}
}

func TestOfNoCurve(t *testing.T) { // P7.1, P7.2, P7.3: it was made, though nothing is ever added
	r, l := made(t, api.Curve{}, start{7, 5}, start{9, 6})
	holds(t, r, l)
	if r.At(top) != 5 || r.Reach(5) != 9 || r.Reach(6) != api.Never || r.Eligible(5) != 9 || r.Eligible(6) != api.Never || r.Many() != 2 {
		t.Errorf("%d, 5 at %d", r.At(top), r.Reach(5))
	}
}

func TestStartExamples(t *testing.T) { // P7.1, P7.2, P7.3
	bent, sagging, straight := of(4, 10, 1), of(1, 10, 4), of(0, 0, 3)
	for i, x := range []struct {
		c                api.Curve
		all              []start
		last             uint64
		now, later, late uint64 // what it has at the last start, and 5 and 20 ticks behind
		e                uint64 // what E has at the last start
	}{
		{bent, []start{{100, 7}}, 100, 7, 27, 57, 7},
		{sagging, []start{{100, 7}}, 100, 7, 12, 57, 7},
		{straight, []start{{100, 7}}, 100, 7, 22, 67, 7},
		// From less than it has, from as much, from more.
		{bent, []start{{0, 0}, {5, 4}}, 5, 4, 24, 54, 4},
		{bent, []start{{0, 0}, {5, 20}}, 5, 20, 40, 55, 20},
		{bent, []start{{0, 0}, {5, 21}}, 5, 20, 40, 55, 20},
		{sagging, []start{{0, 0}, {5, 4}}, 5, 4, 9, 54, 4},
		{sagging, []start{{0, 0}, {5, 5}}, 5, 5, 10, 55, 5},
		{sagging, []start{{0, 0}, {5, 6}}, 5, 5, 10, 56, 6},
		{sagging, []start{{0, 0}, {5, 21}}, 5, 5, 10, 70, 20},
		{straight, []start{{0, 0}, {5, 14}}, 5, 14, 29, 74, 14},
		{straight, []start{{0, 0}, {5, 15}}, 5, 15, 30, 75, 15},
		{straight, []start{{0, 0}, {5, 16}}, 5, 15, 30, 75, 15},
		// At one tick, in either order.
		{bent, []start{{9, 8}, {9, 5}}, 9, 5, 25, 55, 5},
		{bent, []start{{9, 5}, {9, 8}}, 9, 5, 25, 55, 5},
		{sagging, []start{{9, 8}, {9, 5}}, 9, 5, 10, 55, 5},
		{sagging, []start{{9, 5}, {9, 8}}, 9, 5, 10, 55, 5},
		{straight, []start{{9, 8}, {9, 5}}, 9, 5, 20, 65, 5},
		{straight, []start{{9, 5}, {9, 5}}, 9, 5, 20, 65, 5},
		// Ahead of the last one: as at that tick.
		{bent, []start{{9, 5}, {4, 1}}, 9, 1, 21, 51, 1},
		{sagging, []start{{9, 5}, {4, 1}}, 9, 1, 6, 51, 1},
		{straight, []start{{9, 5}, {4, 1}}, 9, 1, 16, 61, 1},
		{bent, []start{{9, 5}, {0, 6}}, 9, 5, 25, 55, 5},
		{sagging, []start{{9, 5}, {0, 6}}, 9, 5, 10, 55, 5},
		{straight, []start{{9, 5}, {0, 6}}, 9, 5, 20, 65, 5},
		// Beyond Never, and Cap.
		{bent, []start{{api.Never + 1, 3}}, api.Never, 3, 23, 53, 3},
		{sagging, []start{{top, 3}}, api.Never, 3, 8, 53, 3},
		{straight, []start{{top, 3}, {0, 2}}, api.Never, 2, 17, 62, 2},
		{bent, []start{{6, api.Cap + 1}}, 6, api.Cap, api.Cap, api.Cap, api.Cap},
		{sagging, []start{{6, top}}, 6, api.Cap, api.Cap, api.Cap, api.Cap},
		{straight, []start{{6, api.Never}, {7, 1}}, 7, 1, 16, 61, 1},
		{bent, []start{{6, api.Cap - 10}}, 6, api.Cap - 10, api.Cap, api.Cap, api.Cap - 10},
		{sagging, []start{{6, api.Cap - 10}, {8, top}}, 8, api.Cap - 8, api.Cap - 3, api.Cap, api.Cap - 2},
		{straight, []start{{6, api.Cap - 20}}, 6, api.Cap - 20, api.Cap - 5, api.Cap, api.Cap - 20},
	} {
		r, l := made(t, x.c, x.all...)
		if last, is := r.Last(); last != x.last || !is || r.Many() != len(x.all) {
			t.Errorf("%d: %d started, the last one at %d", i, r.Many(), last)
		}
		if now, later, late := r.At(x.last), r.At(x.last+5), r.At(x.last+20); now != x.now || later != x.later || late != x.late {
			t.Errorf("%d: %d %d %d, not %d %d %d", i, now, later, late, x.now, x.later, x.late)
		}
		if r.Ahead(x.last) != x.e {
			t.Errorf("%d: E %d, not %d", i, r.Ahead(x.last), x.e)
		}
		holds(t, r, l)
	}
}

func TestAheadOfTheLastStart(t *testing.T) { // P7.2, P7.3
	for _, c := range []api.Curve{of(4, 10, 1), of(1, 10, 4), of(0, 0, 3)} {
		r, _ := made(t, c, start{100, 7}, start{120, 17})
		for _, n := range []uint64{0, 1, 99, 100, 110, 119} {
			if r.At(n) != r.At(120) || r.Ahead(n) != r.Ahead(120) || r.At(n) < 17 {
				t.Errorf("%v at %d: %d %d", c, n, r.At(n), r.Ahead(n))
			}
		}
		for _, y := range []uint64{0, 7, 8, 16, 17} {
			if r.Reach(y) != 120 || r.Eligible(y) != 120 {
				t.Errorf("%v: %d at %d, eligible at %d", c, y, r.Reach(y), r.Eligible(y))
			}
		}
	}
}

func TestFar(t *testing.T) { // P7.2, P7.3: what would be reached, or become eligible, at Never or later
	for i, x := range []struct {
		c                 api.Curve
		from              start
		y, want, eligible uint64
	}{
		{of(3, 5, 0), start{9, 4}, 19, 14, 14},
		{of(3, 5, 0), start{9, 4}, 20, api.Never, api.Never}, // nothing is added any more
		{of(2, 1, 1), start{0, 0}, api.Cap, api.Cap - 1, api.Cap - 1},
		{of(2, 1, 1), start{0, 0}, api.Cap + 1, api.Never, api.Never}, // what it has stops at Cap
		{of(2, 1, 1), start{api.Never - 10, 0}, 10, api.Never - 1, api.Never - 1},
		{of(2, 1, 1), start{api.Never - 10, 0}, 11, api.Never, api.Never},
		{of(2, 1, 1), start{api.Never - 10, 0}, 12, api.Never, api.Never},
		{of(2, 1, 1), start{api.Never, 5}, 0, api.Never, api.Never}, // though it has that there
		{of(2, 1, 1), start{top, top}, api.Cap, api.Never, api.Never},
		{of(0, 5, 1), start{0, 0}, api.Cap, api.Cap + 5, api.Cap},
		{of(0, 5, 1), start{0, 0}, api.Cap + 1, api.Never, api.Never},
		{of(0, 5, 1), start{0, 0}, top, api.Never, api.Never},
		{of(0, 5, 1), start{0, top}, api.Cap, 0, 0},
		{of(0, 5, 1), start{api.Never - 10, 0}, 4, api.Never - 1, api.Never - 6},
		{of(0, 5, 1), start{api.Never - 10, 0}, 5, api.Never, api.Never - 5},
		{of(0, 5, 1), start{api.Never - 10, 0}, 9, api.Never, api.Never - 1},
		{of(0, 5, 1), start{api.Never - 10, 0}, 10, api.Never, api.Never},
		{of(0, 5, 1), start{top, 5}, 5, api.Never, api.Never},
		{of(0, api.MaxTick, 1), start{api.Never - api.MaxTick, 0}, 1, api.Never, api.Never - api.MaxTick + 1},
		{of(0, 0, 1), start{0, 0}, api.Cap, api.Cap, api.Cap},
		{of(0, 0, 1), start{0, 0}, api.Cap + 1, api.Never, api.Never},
		{of(0, 0, 1), start{api.Never - 10, 0}, 9, api.Never - 1, api.Never - 1},
		{of(0, 0, 1), start{api.Never - 10, 0}, 10, api.Never, api.Never},
		{of(0, 0, 0), start{4, 5}, 5, 4, 4},
		{of(0, 0, 0), start{4, 5}, 6, api.Never, api.Never},
	} {
		r, _ := made(t, x.c, x.from)
		if r.Reach(x.y) != x.want || r.Eligible(x.y) != x.eligible {
			t.Errorf("%d: %d %d, not %d %d", i, r.Reach(x.y), r.Eligible(x.y), x.want, x.eligible)
		}
	}
}

func TestTickByTick(t *testing.T) { // P7.2, P7.3
	chance := rand.New(rand.NewSource(2))
	for _, c := range small() {
		for range 15 {
			r, l := made(t, c, some(chance, c, 6, false)...)
			y, z := uint64(0), uint64(0) // of what it is asked next when it is reached, and becomes eligible
			for n := range l.last() + 60 {
				has, e := l.at(n), l.e(n)
				if r.At(n) != has || r.Ahead(n) != e {
					t.Fatalf("%v at %d: %d %d, not %d %d", l, n, r.At(n), r.Ahead(n), has, e)
				}
				if len(l.all) == 0 || n < l.last() {
					continue
				}
				for ; y <= has; y++ {
					if r.Reach(y) != n {
						t.Fatalf("%v: %d at %d, not %d", l, y, r.Reach(y), n)
					}
				}
				for ; z <= e; z++ {
					if r.Eligible(z) != n {
						t.Fatalf("%v: %d eligible at %d, not %d", l, z, r.Eligible(z), n)
					}
				}
			}
		}
	}
}

func TestAllOfAll(t *testing.T) { // P7.1, P7.2, P7.3
	eachRun(t, func(r *Run, l *list) { holds(t, r, l) })
}

func TestCopyExamples(t *testing.T) { // P7.4
	for _, x := range []struct {
		c                   api.Curve
		same, changed, more uint64 // from when on 18 is eligible: as it was, with the copy's new start, and with the run's own
	}{
		{of(1, 10, 4), 5, 8, 9},
		{of(4, 10, 1), 5, 8, 9},
		{of(0, 0, 4), 5, 8, 9},
	} {
		r, _ := made(t, x.c, start{0, 0})
		same := r.Copy()
		if same.Curve() != x.c || same.Many() != 1 || same.Eligible(18) != x.same {
			t.Errorf("%v: 18 eligible at %d", x.c, same.Eligible(18))
		}
		same.Start(4, 2)
		if r.Eligible(18) != x.same || same.Eligible(18) != x.changed || r.Many() != 1 || same.Many() != 2 {
			t.Errorf("%v: %d, %d with its copy's start", x.c, r.Eligible(18), same.Eligible(18))
		}
		r.Start(5, 2)
		if r.Eligible(18) != x.more || same.Eligible(18) != x.changed {
			t.Errorf("%v: %d with its own start, its copy %d", x.c, r.Eligible(18), same.Eligible(18))
		}
		if x, _ := same.Last(); x != 4 {
			t.Errorf("the copy's last start is %d", x)
		}
	}
}

func TestCopyIsItsOwn(t *testing.T) { // P7.4
	chance := rand.New(rand.NewSource(4))
	eachRun(t, func(r *Run, l *list) {
		if chance.Intn(8) > 0 {
			return
		}
		same := r.Copy()
		if same == nil || same == r {
			t.Fatalf("%v: no copy", l)
		}
		holds(t, same, l)
		other := &list{c: l.c, all: slices.Clone(l.all)}
		for range 3 { // by turns, so that neither writes where the other one has its own
			x := other.last() + uint64(chance.Intn(3))
			y := amount(chance, other, x)
			same.Start(x, y)
			other.start(x, y)
			holds(t, r, l)
			x = l.last() + uint64(chance.Intn(3))
			y = amount(chance, l, x)
			r.Start(x, y)
			l.start(x, y)
			holds(t, same, other)
		}
	})
}

func TestAskingChangesNothing(t *testing.T) { // P7.1, P7.2, P7.3, P7.4
	eachRun(t, func(r *Run, l *list) {
		was := r.Copy()
		for _, n := range l.ticks() {
			r.At(n)
			r.Reach(n)
			r.Ahead(n)
			r.Eligible(n)
		}
		r.Last()
		r.Copy().Start(top, 0)
		if !reflect.DeepEqual(r, was) {
			t.Fatalf("%v: changed", l)
		}
	})
}

// atMost checks that what is due by e, beyond c, which became eligible behind s, is at most what the curve has between.
func atMost(t *testing.T, l *list, c, s, due, e uint64) {
	t.Helper()
	if e < api.Never && due > c && (e <= s || due-c > curve.At(l.c, e-s)) {
		t.Fatalf("%v: %d became eligible behind %d, and %d is due by %d", l, c, s, due, e)
	}
}

func TestKept(t *testing.T) { // P7.5
	chance := rand.New(rand.NewSource(5))
	eachRun(t, func(r *Run, l *list) {
		if len(l.all) == 0 {
			return
		}
		ticks := l.ticks()
		for _, s := range l.from(ticks) {
			c := r.Ahead(s) + 1 + uint64(chance.Intn(2)*chance.Intn(50))
			if s >= api.Never || r.Eligible(c) <= s {
				continue
			}
			later := r.Copy()
			for range 3 {
				x, _ := later.Last()
				for _, n := range append(ticks, s+1, s+l.c.Length, s+l.c.Length+1, x, x+l.c.Length, x+l.c.Length+1) {
					for _, due := range []uint64{later.At(n), later.At(n) + 1, c + 1 + uint64(chance.Intn(100))} {
						atMost(t, l, c, s, due, later.Reach(due))
					}
				}
				x += uint64(chance.Intn(20))
				from := []uint64{later.At(x), later.At(x) / 2, later.At(x) + uint64(chance.Intn(9)), later.Ahead(x) - min(later.Ahead(x), uint64(chance.Intn(3)))}
				later.Start(x, from[chance.Intn(len(from))])
			}
		}
	})
}

// TestKeptByALeaf: one that wakes up again and again, each time from what it got, and is sent ahead as early as it is eligible, or later.
func TestKeptByALeaf(t *testing.T) { // P7.5
	type asked struct{ got, eligible uint64 }
	chance := rand.New(rand.NewSource(6))
	for _, c := range append(small(), wild()...) {
		for range 10 {
			r, l := made(t, c)
			got, now := uint64(0), uint64(chance.Intn(9))
			var heads []asked
			for range 25 {
				if r.Many() == 0 || chance.Intn(3) == 0 {
					r.Start(now, got)
					l.start(now, got)
				}
				eligible := r.Eligible(got)
				heads = append(heads, asked{got, eligible})
				length := 1 + uint64(chance.Intn(12))
				due := r.Reach(got + length)
				for _, h := range heads {
					if h.eligible > 0 {
						atMost(t, l, h.got, h.eligible-1, got+length, due)
					}
				}
				if eligible == api.Never {
					break
				}
				now = max(now, eligible) + uint64(chance.Intn(3))*uint64(chance.Intn(9))
				got += length
			}
		}
	}
}

func TestAheadOfWhatIsDue(t *testing.T) { // P7.6
	eachRun(t, func(r *Run, l *list) {
		bent := l.c.First > l.c.Rest
		for _, y := range l.amounts() {
			if r.Eligible(y) > r.Reach(y) || bent && r.Eligible(y) != r.Reach(y) {
				t.Fatalf("%v: %d eligible at %d, due at %d", l, y, r.Eligible(y), r.Reach(y))
			}
		}
		for _, n := range l.ticks() {
			if r.Ahead(n) < r.At(n) || bent && r.Ahead(n) != r.At(n) {
				t.Fatalf("%v at %d: E has %d, the run %d", l, n, r.Ahead(n), r.At(n))
			}
		}
	})
}

func TestAsleepAndAwake(t *testing.T) { // P7.7
	chance := rand.New(rand.NewSource(8))
	eachRun(t, func(r *Run, l *list) {
		if len(l.all) == 0 {
			return
		}
		ticks := l.from(l.ticks())
		var was []uint64
		for _, n := range ticks {
			was = append(was, r.At(n))
		}
		for i, x := range ticks {
			if x > api.Never {
				break
			}
			for _, y := range []uint64{was[i], was[i] - min(was[i], 1), was[i] / 2, was[i] - min(was[i], uint64(chance.Intn(30))), 0} {
				anew := r.Copy()
				anew.Start(x, y)
				if anew.At(x) != y {
					t.Fatalf("%v, anew at %d from %d: %d", l, x, y, anew.At(x))
				}
				for k, n := range ticks[i:] {
					if anew.At(n) > was[i+k] {
						t.Fatalf("%v, anew at %d from %d: at %d %d, not %d", l, x, y, n, anew.At(n), was[i+k])
					}
				}
			}
		}
	})
}

func TestWakingUpIsNoGain(t *testing.T) { // P7.8
	chance := rand.New(rand.NewSource(9))
	for _, c := range append(small(), wild()...) {
		for range 10 {
			begun := start{uint64(chance.Int63()) >> chance.Intn(63), uint64(chance.Int63()) >> (2 + chance.Intn(60))}
			r, l := made(t, c, begun)
			for range 6 {
				for _, n := range l.from(l.ticks()) {
					most := stopped(sum(number(begun.y), grains(c, number(n-begun.x))))
					if r.At(n) > most {
						t.Fatalf("%v: %d at %d, not %d at most", l, r.At(n), n, most)
					}
				}
				x := min(l.last()+uint64(chance.Int63n(int64(c.Length%100)+9)), api.Never)
				y := r.At(x)
				if chance.Intn(2) == 0 {
					y -= min(y, uint64(chance.Intn(20)))
				}
				r.Start(x, y)
				l.start(x, y)
			}
		}
	}
}
