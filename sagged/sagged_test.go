package sagged

import (
	"math/big"
	"math/rand"
	"reflect"
	"slices"
	"testing"

	"distributary/api"
	"distributary/curve"
)

const top = 1<<64 - 1

func of(first, length, rest uint64) api.Curve {
	return api.Curve{First: first, Length: length, Rest: rest}
}

// written is DOC.md's 'It may be' and 'it sags', word by word.
func written(c api.Curve) bool {
	if c.First > api.MaxSlope || c.Rest > api.MaxSlope || c.Length > api.MaxTick {
		return false
	}
	if c.Length == 0 {
		return c.First == 0
	}
	return c.First < c.Rest
}

// grid is each curve of such slopes and lengths, bent or not, may it be or not.
func grid(slopes, lengths []uint64) []api.Curve {
	var l []api.Curve
	for _, first := range slopes {
		for _, length := range lengths {
			for _, rest := range slopes {
				l = append(l, of(first, length, rest))
			}
		}
	}
	return l
}

// those are the curves of the list that sag and may be.
func those(l []api.Curve) []api.Curve {
	return slices.DeleteFunc(l, func(c api.Curve) bool { return !written(c) })
}

// small are curves whose runs can be gone up tick by tick; straight ones and none are among them.
func small() []api.Curve { return those(grid([]uint64{0, 1, 2, 3, 7}, []uint64{0, 1, 2, 5, 10, 20})) }

// wild are curves at all limits.
func wild() []api.Curve {
	return those(grid([]uint64{0, 1, 3, api.MaxSlope - 1, api.MaxSlope}, []uint64{0, 1, 10, 1000, api.MaxTick - 1, api.MaxTick}))
}

func number(n uint64) *big.Int { return new(big.Int).SetUint64(n) }

func product(a, b uint64) *big.Int { return new(big.Int).Mul(number(a), number(b)) }

// stopped is n, or Cap if n is more.
func stopped(n *big.Int) uint64 {
	if n.Cmp(number(api.Cap)) > 0 {
		return api.Cap
	}
	return n.Uint64()
}

// start is where a copy starts, and from what on.
type start struct{ x, y uint64 }

// has is what a copy of c that starts there has at t, without stopping.
func (s start) has(c api.Curve, t uint64) *big.Int {
	n := product(c.First, min(t-s.x, c.Length))
	if t-s.x > c.Length {
		n.Add(n, product(c.Rest, t-s.x-c.Length))
	}
	return n.Add(n, number(s.y))
}

// line is what such a copy's line has at t.
func (s start) line(c api.Curve, t uint64) *big.Int {
	n := product(c.Rest, t-s.x)
	return n.Add(n, number(s.y))
}

// copies are all copies of a run, as the chapter's words have them.
type copies struct {
	c   api.Curve
	all []start
}

func (l *copies) start(x, y uint64) {
	l.all = append(l.all, start{max(min(x, api.Never), l.last()), min(y, api.Cap)})
}

func (l *copies) last() uint64 {
	if len(l.all) == 0 {
		return 0
	}
	return l.all[len(l.all)-1].x
}

// least is the least, of some copies, of what each has at t by that, without stopping; 0 of none.
func (l *copies) least(some []start, t uint64, by func(s start, c api.Curve, t uint64) *big.Int) *big.Int {
	var least *big.Int
	for _, s := range some {
		if has := by(s, l.c, max(t, l.last())); least == nil || has.Cmp(least) < 0 {
			least = has
		}
	}
	if least == nil {
		return new(big.Int)
	}
	return least
}

func (l *copies) at(t uint64) uint64 { return stopped(l.least(l.all, t, start.has)) }

func (l *copies) line(t uint64) uint64 { return stopped(l.least(l.all, t, start.line)) }

// first is the first tick below Never, from the last start on, at which y is there at least, else Never: by halving what is left, as nothing falls.
func (l *copies) first(y uint64, at func(t uint64) uint64) uint64 {
	if len(l.all) == 0 && y == 0 {
		return 0
	}
	low, high := l.last(), uint64(api.Never)
	for low < high {
		if t := low + (high-low)/2; at(t) >= y {
			high = t
		} else {
			low = t + 1
		}
	}
	return low
}

// isFirst is whether n is that tick, which is asked quicker.
func (l *copies) isFirst(n, y uint64, at func(t uint64) uint64) bool {
	if len(l.all) == 0 && y == 0 {
		return n == 0
	}
	if n < l.last() || n > api.Never {
		return false
	}
	return (n == api.Never || at(n) >= y) && (n == l.last() || at(n-1) < y)
}

// bends are the last start and the corners behind it: what is so of two copies at these is so at each tick from there on, as they go on straight between, and at last likewise.
func (l *copies) bends() []uint64 {
	at := []uint64{l.last()}
	for _, s := range l.all {
		at = append(at, max(s.x+l.c.Length, l.last()))
	}
	return at
}

// kept are those copies that are kept, by the chapter's words, of what all have at those ticks.
func (l *copies) kept(at []uint64) []start {
	var kept []start
	for i, s := range l.all {
		stays := true
		for k, other := range l.all {
			atMost, less := true, false
			for _, t := range at {
				c := other.has(l.c, t).Cmp(s.has(l.c, t))
				atMost, less = atMost && c <= 0, less || c < 0
			}
			if k > i && atMost || k < i && atMost && less {
				stays = false
			}
		}
		if stays {
			kept = append(kept, s)
		}
	}
	return kept
}

// beside are the numbers of the list, and those one less and one more, as far as there are any; rising.
func beside(l ...uint64) []uint64 {
	var all []uint64
	for _, n := range l {
		all = append(all, n)
		if n > 0 {
			all = append(all, n-1)
		}
		if n < top {
			all = append(all, n+1)
		}
	}
	slices.Sort(all)
	return slices.Compact(all)
}

// ticks are those at which something turns on the run.
func (l *copies) ticks() []uint64 {
	at := []uint64{0, 10, api.MaxTick, api.Cap, api.Never, top}
	for _, s := range l.all {
		at = append(at, s.x, s.x+l.c.Length, s.x+l.c.Length/2)
	}
	return beside(append(at, l.first(api.Cap, l.at), l.first(api.Cap, l.line))...)
}

// amounts are those at which something turns on the run.
func (l *copies) amounts() []uint64 {
	y := []uint64{0, 7, 100, api.Cap, api.Never, top}
	for _, t := range l.ticks() {
		y = append(y, l.at(t), l.line(t))
	}
	return beside(y...)
}

// made is a run of that curve, with such copies, and the words' own one of them.
func made(t *testing.T, c api.Curve, all ...start) (*Sagged, *copies) {
	t.Helper()
	s, e := New(c)
	if s == nil || e != api.OK {
		t.Fatalf("%v: %v", c, e)
	}
	l := &copies{c: c}
	for _, k := range all {
		s.Start(k.x, k.y)
		l.start(k.x, k.y)
	}
	return s, l
}

// amount is one to start from at x: most often one that makes a copy that is kept beside others, between what the run has there and its line.
func amount(r *rand.Rand, l *copies, x uint64) uint64 {
	has, line := l.at(x), l.line(x)
	switch r.Intn(12) {
	case 0:
		return has
	case 1:
		return line
	case 2:
		return has - min(has, uint64(r.Intn(20)))
	case 3:
		return line + uint64(r.Intn(20))
	case 4:
		return has / 2
	case 5, 6, 7, 8:
		return line - min(line, 1+uint64(r.Intn(3)))
	}
	return has + uint64(r.Int63n(int64(line-has)+1))
}

// near are up to n starts of which most copies are kept: shortly behind one another, each just below the line of all ahead of it.
func near(r *rand.Rand, c api.Curve, n int, far bool) []start {
	l := &copies{c: c}
	x := uint64(r.Intn(9))
	if far {
		x = api.Never - uint64(r.Intn(60))
	}
	given := []start{{x, uint64(r.Intn(9))}}
	l.start(x, given[0].y)
	for range r.Intn(n) {
		x += 1 + uint64(r.Intn(3))
		y := l.line(x) - 1 - uint64(r.Intn(2))
		if y > l.line(x) {
			y = 0
		}
		given = append(given, start{x, y})
		l.start(x, y)
	}
	return given
}

// some are up to n starts of a run of that curve; far ones go to all limits.
func some(r *rand.Rand, c api.Curve, n int, far bool) []start {
	if r.Intn(3) == 0 {
		return near(r, c, n, far && r.Intn(2) == 0)
	}
	l := &copies{c: c}
	given := []start{}
	for range r.Intn(n + 1) {
		x := l.last() + uint64(r.Intn(4))
		if r.Intn(4) == 0 {
			x = l.last() + uint64(r.Int63n(int64(c.Length+8)))
		}
		if far && r.Intn(8) == 0 {
			x = l.last() + uint64(r.Int63())>>r.Intn(50)
		}
		if far && r.Intn(12) == 0 {
			x = api.Never - 30 + uint64(r.Intn(40))
		}
		if r.Intn(8) == 0 {
			x = l.last() - min(l.last(), uint64(r.Intn(9)))
		}
		y := amount(r, l, x)
		if far && r.Intn(6) == 0 {
			y = r.Uint64() >> r.Intn(64)
		}
		given = append(given, start{x, y})
		l.start(x, y)
	}
	return given
}

// eachRun goes over many runs, of small curves and at all limits.
func eachRun(t *testing.T, do func(s *Sagged, l *copies)) {
	r := rand.New(rand.NewSource(6))
	for _, c := range small() {
		for range 12 {
			do(made(t, c, some(r, c, 8, false)...))
		}
	}
	for _, c := range wild() {
		for range 8 {
			do(made(t, c, some(r, c, 7, true)...))
		}
	}
}

// holds checks a run against all its copies, at all that turns on it.
func holds(t *testing.T, s *Sagged, l *copies) {
	t.Helper()
	if x, is := s.Last(); x != l.last() || is != (len(l.all) > 0) || s.Starts() != len(l.all) {
		t.Fatalf("%v: %d %v %d", l, x, is, s.Starts())
	}
	if kept := l.kept(l.bends()); s.Kept() != len(kept) {
		t.Fatalf("%v: %d kept, not %v", l, s.Kept(), kept)
	}
	for _, n := range l.ticks() {
		if s.At(n) != l.at(n) || s.Line(n) != l.line(n) {
			t.Fatalf("%v at %d: %d %d, not %d %d", l, n, s.At(n), s.Line(n), l.at(n), l.line(n))
		}
	}
	for _, y := range l.amounts() {
		if !l.isFirst(s.Reach(y), y, l.at) || !l.isFirst(s.Ahead(y), y, l.line) {
			t.Fatalf("%v: %d at %d %d, not %d %d", l, y, s.Reach(y), s.Ahead(y), l.first(y, l.at), l.first(y, l.line))
		}
	}
}

func TestChapterExample(t *testing.T) { // P6.1, P6.2, P6.3
	s, _ := made(t, of(1, 10, 4), start{0, 0})
	if s.At(10) != 10 || s.At(20) != 50 || s.Kept() != 1 {
		t.Errorf("%d %d, %d kept", s.At(10), s.At(20), s.Kept())
	}
	s.Start(5, 3)
	if s.At(10) != 8 || s.At(20) != 33 || s.Kept() != 1 || s.Line(10) != 23 {
		t.Errorf("%d %d, line %d, %d kept", s.At(10), s.At(20), s.Line(10), s.Kept())
	}
	s.Start(8, 20)
	if s.At(10) != 8 || s.At(20) != 33 || s.Kept() != 1 || s.Line(10) != 23 || s.Starts() != 3 {
		t.Errorf("%d %d, line %d, %d of %d kept", s.At(10), s.At(20), s.Line(10), s.Kept(), s.Starts())
	}
	if x, is := s.Last(); x != 8 || !is { // though that one isn't kept
		t.Errorf("%d %v", x, is)
	}
	for y, want := range map[uint64][2]uint64{0: {8, 8}, 6: {8, 8}, 7: {9, 8}, 8: {10, 8}, 13: {15, 8}, 14: {16, 8}, 15: {16, 8}, 16: {16, 9}, 17: {16, 9}, 18: {17, 9}, 23: {18, 10}} {
		if s.Reach(y) != want[0] || s.Ahead(y) != want[1] {
			t.Errorf("%d at %d, the line at %d, not %v", y, s.Reach(y), s.Ahead(y), want)
		}
	}
}

func TestNewExamples(t *testing.T) { // P6.1
	for i, x := range []struct {
		c api.Curve
		e api.Errno
	}{
		{of(1, 10, 3), api.OK},
		{of(0, 1, 1), api.OK},
		{of(0, 0, 0), api.OK}, // none
		{of(0, 0, 5), api.OK}, // a straight one
		{of(0, 0, api.MaxSlope), api.OK},
		{of(api.MaxSlope-1, api.MaxTick, api.MaxSlope), api.OK},
		{of(3, 10, 1), api.ErrCurve}, // bent ones
		{of(1, 1, 0), api.ErrCurve},
		{of(3, 10, 3), api.ErrCurve}, // ones that may not be
		{of(0, 10, 0), api.ErrCurve}, // none, told in another way
		{of(1, 0, 3), api.ErrCurve},  // with a First that is nowhere
		{of(1, 0, 1), api.ErrCurve},
		{of(0, 0, api.MaxSlope+1), api.ErrCurve},
		{of(1, 10, api.MaxSlope+1), api.ErrCurve},
		{of(1, api.MaxTick+1, 2), api.ErrCurve},
		{of(1, top, top), api.ErrCurve},
	} {
		s, e := New(x.c)
		if e != x.e || (s == nil) != (e != api.OK) {
			t.Errorf("%d: %v", i, e)
		}
	}
}

func TestNewOfAll(t *testing.T) { // P6.1
	slopes := []uint64{0, 1, 2, 5, api.MaxSlope - 1, api.MaxSlope, api.MaxSlope + 1, api.Cap, top}
	lengths := []uint64{0, 1, 10, api.MaxTick, api.MaxTick + 1, api.Never, top}
	for _, c := range grid(slopes, lengths) {
		s, e := New(c)
		if (e == api.OK) != written(c) || (s != nil) != written(c) || e != api.OK && e != api.ErrCurve {
			t.Errorf("%v: %v", c, e)
		}
	}
}

// noCopies checks what a run without copies tells.
func noCopies(t *testing.T, s *Sagged) {
	t.Helper()
	for _, n := range []uint64{0, 1, 10, api.Cap, api.Never, top} {
		if s.At(n) != 0 || s.Line(n) != 0 {
			t.Errorf("at %d: %d %d", n, s.At(n), s.Line(n))
		}
		if n > 0 && (s.Reach(n) != api.Never || s.Ahead(n) != api.Never) {
			t.Errorf("%d at %d, the line at %d", n, s.Reach(n), s.Ahead(n))
		}
	}
	if s.Reach(0) != 0 || s.Ahead(0) != 0 {
		t.Errorf("0 at %d, the line at %d", s.Reach(0), s.Ahead(0))
	}
	if x, is := s.Last(); x != 0 || is {
		t.Errorf("%d %v", x, is)
	}
	if s.Starts() != 0 || s.Kept() != 0 {
		t.Errorf("%d of %d kept", s.Kept(), s.Starts())
	}
}

func TestWithoutCopies(t *testing.T) { // P6.1, P6.2, P6.3, P6.4
	for _, c := range append(small(), wild()...) {
		s, _ := made(t, c)
		noCopies(t, s)
		noCopies(t, s.Copy())
		other := s.Copy()
		other.Start(5, 7) // one that was made, though it has no copies: they may start
		if other.At(5) != 7 || other.Starts() != 1 || other.Kept() != 1 {
			t.Errorf("%v: %d", c, other.At(5))
		}
		noCopies(t, s)
	}
}

func TestNobodyMade(t *testing.T) { // P6.1, P6.2, P6.3, P6.4
	var none *Sagged
	none.Start(1, 1)
	noCopies(t, none)
	if none.Copy() != nil {
		t.Error("a copy of nil")
	}
	zero := &Sagged{} // though its curve is none, as a made one's may be
	zero.Start(1, 1)
	zero.Start(7, 0)
	noCopies(t, zero)
	same := zero.Copy()
	if same == nil || same == zero {
		t.Fatal("no copy")
	}
	same.Start(1, 1)
	noCopies(t, same)
}

func TestStartExamples(t *testing.T) { // P6.1, P6.5
	c := of(1, 10, 4) // a line is above its copy by 30 at most
	for i, x := range []struct {
		all  []start
		last uint64
		kept []start
	}{
		{[]start{{100, 7}}, 100, []start{{100, 7}}},
		// Behind one that has 5 there, with a line of 20: as much, one more, nearly the line, the line.
		{[]start{{0, 0}, {5, 4}}, 5, []start{{5, 4}}},
		{[]start{{0, 0}, {5, 5}}, 5, []start{{5, 5}}},
		{[]start{{0, 0}, {5, 6}}, 5, []start{{0, 0}, {5, 6}}},
		{[]start{{0, 0}, {5, 19}}, 5, []start{{0, 0}, {5, 19}}},
		{[]start{{0, 0}, {5, 20}}, 5, []start{{0, 0}}},
		{[]start{{0, 0}, {5, 21}}, 5, []start{{0, 0}}},
		// With the first one's corner just behind, and far: of two that have the same the last one.
		{[]start{{0, 0}, {10, 10}}, 10, []start{{10, 10}}},
		{[]start{{0, 0}, {10, 11}}, 10, []start{{0, 0}, {10, 11}}},
		{[]start{{0, 0}, {10, 39}}, 10, []start{{0, 0}, {10, 39}}},
		{[]start{{0, 0}, {10, 40}}, 10, []start{{0, 0}}},
		{[]start{{0, 0}, {20, 50}}, 20, []start{{20, 50}}},
		{[]start{{0, 0}, {20, 51}}, 20, []start{{0, 0}, {20, 51}}},
		// At one tick, in either order: the lesser one.
		{[]start{{9, 8}, {9, 5}}, 9, []start{{9, 5}}},
		{[]start{{9, 5}, {9, 8}}, 9, []start{{9, 5}}},
		{[]start{{9, 5}, {9, 5}}, 9, []start{{9, 5}}},
		// Ahead of the last one: as at that tick.
		{[]start{{9, 5}, {4, 1}}, 9, []start{{9, 1}}},
		{[]start{{9, 5}, {0, 6}}, 9, []start{{9, 5}}},
		{[]start{{0, 0}, {9, 20}, {4, 10}}, 9, []start{{0, 0}, {9, 10}}},
		// The middle one is least only between the two others.
		{[]start{{0, 0}, {4, 10}, {8, 24}}, 8, []start{{0, 0}, {4, 10}, {8, 24}}},
		// And here it never is.
		{[]start{{0, 0}, {4, 16}, {8, 24}}, 8, []start{{0, 0}, {8, 24}}},
		{[]start{{0, 0}, {4, 10}, {8, 14}}, 8, []start{{0, 0}, {8, 14}}},
		{[]start{{0, 0}, {4, 10}, {8, 8}}, 8, []start{{8, 8}}},
		// What starts later takes the earlier ones with it, though it isn't kept itself: their corners come to be behind.
		{[]start{{0, 0}, {4, 10}, {8, 24}, {11, 100}}, 11, []start{{0, 0}, {4, 10}, {8, 24}}},
		{[]start{{0, 0}, {4, 10}, {8, 24}, {12, 100}}, 12, []start{{4, 10}, {8, 24}}},
		{[]start{{0, 0}, {4, 10}, {8, 24}, {17, 100}}, 17, []start{{4, 10}, {8, 24}}},
		{[]start{{0, 0}, {4, 10}, {8, 24}, {18, 100}}, 18, []start{{8, 24}}},
		{[]start{{0, 0}, {4, 10}, {8, 24}, {50, 1000}}, 50, []start{{8, 24}}},
		{[]start{{0, 0}, {4, 10}, {8, 24}, {50, 5}}, 50, []start{{50, 5}}},
		{[]start{{0, 0}, {4, 10}, {8, 24}, {9, 26}}, 9, []start{{0, 0}, {4, 10}, {8, 24}, {9, 26}}},
		{[]start{{0, 0}, {4, 10}, {8, 24}, {9, 25}}, 9, []start{{0, 0}, {4, 10}, {9, 25}}},
		{[]start{{0, 0}, {4, 10}, {8, 24}, {9, 15}}, 9, []start{{0, 0}, {9, 15}}},
		{[]start{{0, 0}, {4, 10}, {8, 24}, {9, 9}}, 9, []start{{9, 9}}},
		// Beyond Never.
		{[]start{{api.Never, 3}}, api.Never, []start{{api.Never, 3}}},
		{[]start{{api.Never + 1, 3}}, api.Never, []start{{api.Never, 3}}},
		{[]start{{top, 3}, {top, 2}}, api.Never, []start{{api.Never, 2}}},
		{[]start{{top, 2}, {0, 3}}, api.Never, []start{{api.Never, 2}}},
		{[]start{{api.Never - 4, 3}, {top, 8}}, api.Never, []start{{api.Never - 4, 3}, {api.Never, 8}}},
		{[]start{{api.Never - 4, 3}, {top, 19}}, api.Never, []start{{api.Never - 4, 3}}},
		{[]start{{0, 0}, {top, top}}, api.Never, []start{{api.Never, api.Cap}}},
		// Beyond Cap: all start from Cap then, but what they have doesn't stop.
		{[]start{{6, api.Cap}}, 6, []start{{6, api.Cap}}},
		{[]start{{6, api.Cap + 1}}, 6, []start{{6, api.Cap}}},
		{[]start{{6, top}}, 6, []start{{6, api.Cap}}},
		{[]start{{6, top}, {7, 1}}, 7, []start{{7, 1}}},
		{[]start{{6, top}, {7, top}}, 7, []start{{7, api.Cap}}},
		{[]start{{6, top}, {6, top}}, 6, []start{{6, api.Cap}}},
		{[]start{{6, api.Cap - 1}, {7, top}}, 7, []start{{7, api.Cap}}},
		{[]start{{6, api.Cap - 2}, {7, top}}, 7, []start{{6, api.Cap - 2}, {7, api.Cap}}},
		{[]start{{6, api.Cap - 4}, {7, top}}, 7, []start{{6, api.Cap - 4}}},
		{[]start{{6, api.Cap - 9}, {10, api.Cap}, {12, api.Cap}}, 12, []start{{6, api.Cap - 9}, {12, api.Cap}}},
	} {
		s, l := made(t, c, x.all...)
		if kept := l.kept(l.bends()); !slices.Equal(kept, x.kept) || s.Kept() != len(x.kept) {
			t.Errorf("%d: %d kept, not %v, by the words %v", i, s.Kept(), x.kept, kept)
		}
		if last, is := s.Last(); last != x.last || !is || s.Starts() != len(x.all) {
			t.Errorf("%d: %d %v %d", i, last, is, s.Starts())
		}
		holds(t, s, l)
	}
}

func TestStraightOnes(t *testing.T) { // P6.1, P6.2, P6.3
	for _, c := range []api.Curve{of(0, 0, 0), of(0, 0, 1), of(0, 0, 7), of(0, 0, api.MaxSlope)} {
		r := rand.New(rand.NewSource(3))
		for range 40 {
			s, l := made(t, c, some(r, c, 6, true)...)
			holds(t, s, l)
			if s.Kept() != min(len(l.all), 1) { // each corner is where its copy starts
				t.Fatalf("%v: %d kept", l, s.Kept())
			}
			for _, n := range l.ticks() {
				if s.At(n) != s.Line(n) {
					t.Fatalf("%v at %d: %d, its line %d", l, n, s.At(n), s.Line(n))
				}
			}
		}
	}
	none, _ := made(t, api.Curve{}, start{3, 7}, start{10, 7}, start{12, 9})
	if none.At(top) != 7 || none.Reach(7) != 12 || none.Reach(8) != api.Never || none.Ahead(8) != api.Never || none.Kept() != 1 {
		t.Errorf("none: %d", none.At(top))
	}
}

func TestTickByTick(t *testing.T) { // P6.1, P6.2, P6.3
	r := rand.New(rand.NewSource(2))
	for _, c := range small() {
		for range 20 {
			s, l := made(t, c, some(r, c, 8, false)...)
			var behind []uint64 // the ticks from the last start on, far beyond all corners
			y, z := uint64(0), uint64(0)
			for n := range l.last() + 60 {
				has, line := l.at(n), l.line(n)
				if s.At(n) != has || s.Line(n) != line {
					t.Fatalf("%v at %d: %d %d, not %d %d", l, n, s.At(n), s.Line(n), has, line)
				}
				if n < l.last() {
					continue
				}
				behind = append(behind, n)
				for ; len(l.all) > 0 && y <= has; y++ {
					if s.Reach(y) != n {
						t.Fatalf("%v: %d at %d, not %d", l, y, s.Reach(y), n)
					}
				}
				for ; len(l.all) > 0 && z <= line; z++ {
					if s.Ahead(z) != n {
						t.Fatalf("%v: %d of the line at %d, not %d", l, z, s.Ahead(z), n)
					}
				}
			}
			if kept := l.kept(behind); s.Kept() != len(kept) {
				t.Fatalf("%v: %d kept, not %v", l, s.Kept(), kept)
			}
		}
	}
}

func TestAllOfAll(t *testing.T) { // P6.1, P6.2, P6.3
	var runs [9]int // by how many are kept
	eachRun(t, func(s *Sagged, l *copies) {
		holds(t, s, l)
		runs[s.Kept()]++
	})
	for kept, n := range runs[:7] {
		if n < 10 {
			t.Errorf("only %d runs in which %d are kept", n, kept)
		}
	}
	t.Log(runs)
}

func TestAheadOfTheLastStart(t *testing.T) { // P6.2, P6.3
	s, _ := made(t, of(1, 10, 4), start{100, 7}, start{105, 14})
	for _, n := range []uint64{0, 1, 99, 100, 104, 105} {
		if s.At(n) != 12 || s.Line(n) != 14 {
			t.Errorf("at %d: %d %d", n, s.At(n), s.Line(n))
		}
	}
	for _, y := range []uint64{0, 7, 8, 12} {
		if s.Reach(y) != 105 {
			t.Errorf("%d at %d", y, s.Reach(y))
		}
	}
	if s.Ahead(14) != 105 || s.Ahead(15) != 106 || s.Reach(13) != 106 {
		t.Errorf("%d %d %d", s.Ahead(14), s.Ahead(15), s.Reach(13))
	}
}

func TestReachFar(t *testing.T) { // P6.2, P6.3
	for i, x := range []struct {
		c              api.Curve
		from           start
		y, want, ahead uint64
	}{
		{of(0, 5, 1), start{0, 0}, 1, 6, 1},
		{of(0, 5, 1), start{9, 4}, 4, 9, 9},
		{of(0, 5, 1), start{9, 4}, 5, 15, 10},
		{of(0, 5, 1), start{0, 0}, api.Cap, api.Cap + 5, api.Cap},
		{of(0, 5, 1), start{0, 0}, api.Cap + 1, api.Never, api.Never}, // what it has stops at Cap
		{of(0, 5, 1), start{0, 0}, top, api.Never, api.Never},
		{of(0, 5, 1), start{0, top}, api.Cap, 0, 0},
		{of(0, 5, 1), start{0, top}, api.Cap + 1, api.Never, api.Never},
		// Reached just ahead of Never, at it, and later.
		{of(0, 5, 1), start{api.Never - 10, 0}, 4, api.Never - 1, api.Never - 6},
		{of(0, 5, 1), start{api.Never - 10, 0}, 5, api.Never, api.Never - 5},
		{of(0, 5, 1), start{api.Never - 10, 0}, 6, api.Never, api.Never - 4},
		{of(0, 5, 1), start{api.Never - 10, 0}, 9, api.Never, api.Never - 1},
		{of(0, 5, 1), start{api.Never - 10, 0}, 10, api.Never, api.Never},
		{of(0, 5, 1), start{api.Never - 10, 0}, api.Cap, api.Never, api.Never},
		{of(0, 5, 1), start{api.Never - 10, 7}, 7, api.Never - 10, api.Never - 10},
		{of(0, 5, 1), start{api.Never - 1, 0}, 0, api.Never - 1, api.Never - 1},
		{of(0, 5, 1), start{api.Never, 5}, 0, api.Never, api.Never}, // though it has that there
		{of(0, 5, 1), start{top, 5}, 5, api.Never, api.Never},
		{of(0, 0, 0), start{0, 5}, 6, api.Never, api.Never}, // nothing is ever added
		{of(0, 0, 0), start{top, top}, api.Cap, api.Never, api.Never},
		{of(0, api.MaxTick, 1), start{0, 0}, api.Cap, api.Cap + api.MaxTick, api.Cap},
		{of(0, api.MaxTick, 1), start{api.Never - api.MaxTick, 0}, 1, api.Never, api.Never - api.MaxTick + 1},
		{of(0, api.MaxTick, 1), start{api.Never - api.MaxTick - 2, 0}, 1, api.Never - 1, api.Never - api.MaxTick - 1},
	} {
		s, _ := made(t, x.c, x.from)
		if s.Reach(x.y) != x.want || s.Ahead(x.y) != x.ahead {
			t.Errorf("%d: %d %d, not %d %d", i, s.Reach(x.y), s.Ahead(x.y), x.want, x.ahead)
		}
	}
}

func TestAtFar(t *testing.T) { // P6.2, P6.3
	for i, x := range []struct {
		c              api.Curve
		from           start
		at, want, line uint64
	}{
		{of(0, 0, 0), start{0, 7}, top, 7, 7},
		{of(0, 5, 1), start{top, 1}, 0, 1, 1},
		{of(0, 5, 1), start{top, 1}, api.Never, 1, 1},
		{of(0, 5, 1), start{top, 1}, api.Never + 7, 3, 8},
		{of(0, 5, 1), start{0, 0}, api.Cap - 1, api.Cap - 6, api.Cap - 1},
		{of(0, 5, 1), start{0, 0}, api.Cap, api.Cap - 5, api.Cap},
		{of(0, 5, 1), start{0, 0}, api.Cap + 1, api.Cap - 4, api.Cap},
		{of(0, 5, 1), start{0, 0}, api.Cap + 5, api.Cap, api.Cap},
		{of(0, 5, 1), start{0, 0}, api.Cap + 6, api.Cap, api.Cap},
		{of(0, 5, 1), start{0, 0}, top, api.Cap, api.Cap},
		{of(0, 5, 1), start{0, api.Cap - 1}, 1, api.Cap - 1, api.Cap},
		{of(0, 5, 1), start{0, top}, 0, api.Cap, api.Cap},
		{of(api.MaxSlope-1, api.MaxTick, api.MaxSlope), start{0, 0}, api.MaxTick, (api.MaxSlope - 1) * api.MaxTick, api.MaxSlope * api.MaxTick},
		{of(api.MaxSlope-1, api.MaxTick, api.MaxSlope), start{0, 0}, top, api.Cap, api.Cap},
	} {
		s, _ := made(t, x.c, x.from)
		if s.At(x.at) != x.want || s.Line(x.at) != x.line {
			t.Errorf("%d: %d %d, not %d %d", i, s.At(x.at), s.Line(x.at), x.want, x.line)
		}
	}
}

// TestTheLineIsThatOfE: what the run has by Length later, less what each copy has ahead of its corner (DOC.md, 'Owed, once').
func TestTheLineIsThatOfE(t *testing.T) { // P6.3
	eachRun(t, func(s *Sagged, l *copies) {
		if s.Starts() == 0 {
			return
		}
		for _, n := range l.ticks() {
			n = max(n, l.last())
			if n > top-l.c.Length {
				continue
			}
			e := l.least(l.all, n+l.c.Length, start.has)
			if e.Sub(e, product(l.c.First, l.c.Length)); s.Line(n) != stopped(e) {
				t.Fatalf("%v: the line at %d: %d, not %d", l, n, s.Line(n), e)
			}
		}
	})
}

func TestCopyIsItsOwn(t *testing.T) { // P6.4
	r := rand.New(rand.NewSource(4))
	eachRun(t, func(s *Sagged, l *copies) {
		if r.Intn(4) > 0 {
			return
		}
		same := s.Copy()
		if same == nil || same == s {
			t.Fatalf("%v: no copy", l)
		}
		holds(t, same, l)
		other := &copies{c: l.c, all: slices.Clone(l.all)}
		for range 3 { // by turns, so that neither writes where the other one has its own
			x := other.last() + uint64(r.Intn(3))
			y := amount(r, other, x)
			same.Start(x, y)
			other.start(x, y)
			holds(t, s, l)
			x = l.last() + uint64(r.Intn(3))
			y = amount(r, l, x)
			s.Start(x, y)
			l.start(x, y)
			holds(t, same, other)
		}
	})
}

func TestCopyOfOneWithRoom(t *testing.T) { // P6.4
	s, _ := made(t, of(0, 100, 9), start{0, 0}, start{1, 1}, start{2, 2}, start{3, 3}, start{4, 4})
	same := s.Copy()
	s.Start(5, 5)
	same.Start(5, 7)
	if s.Kept() != 6 || same.Kept() != 6 || s.Line(5) != 5 || same.Line(5) != 7 {
		t.Errorf("%d %d, lines %d %d", s.Kept(), same.Kept(), s.Line(5), same.Line(5))
	}
	same.Start(5, 1)
	if s.Kept() != 6 || same.Kept() != 2 || s.Line(5) != 5 || same.Line(5) != 1 || s.At(103) != 3 || same.At(103) != 1 {
		t.Errorf("%d %d, lines %d %d, and %d %d", s.Kept(), same.Kept(), s.Line(5), same.Line(5), s.At(103), same.At(103))
	}
}

func TestAskingChangesNothing(t *testing.T) { // P6.2, P6.3, P6.4
	eachRun(t, func(s *Sagged, l *copies) {
		was := s.Copy()
		for _, n := range l.ticks() {
			s.At(n)
			s.Reach(n)
			s.Line(n)
			s.Ahead(n)
		}
		s.Last()
		s.Copy().Start(top, 0)
		if !reflect.DeepEqual(s, was) {
			t.Fatalf("%v: changed", l)
		}
	})
}

func TestFewAreEnough(t *testing.T) { // P6.5
	eachRun(t, func(s *Sagged, l *copies) {
		var kept []start
		for _, k := range s.kept {
			kept = append(kept, start{k.x, k.y})
		}
		for _, n := range l.ticks() {
			for _, by := range []func(start, api.Curve, uint64) *big.Int{start.has, start.line} {
				if all, few := l.least(l.all, n, by), l.least(kept, n, by); all.Cmp(few) != 0 {
					t.Fatalf("%v at %d: %d, of those kept %d", l, n, all, few)
				}
			}
		}
		behind := 0
		for _, k := range kept {
			if k.x+l.c.Length <= l.last() {
				behind++
			}
		}
		if behind > 1 {
			t.Fatalf("%v: %v are kept", l, kept)
		}
	})
}

func TestAllCornersBehind(t *testing.T) { // P6.5
	r := rand.New(rand.NewSource(9))
	runs := 0
	eachRun(t, func(s *Sagged, l *copies) {
		if s.Starts() == 0 || l.last() > api.Cap {
			return
		}
		// One more, behind all corners and far above: of the others just one is kept, and that one isn't.
		x := l.last() + l.c.Length + uint64(r.Intn(5))
		has, line := s.At(x), s.Line(x)
		if line >= api.Cap {
			return
		}
		s.Start(x, line)
		if s.Kept() != 1 || s.At(x) != has || s.Line(x) != line {
			t.Fatalf("%v: %d kept at %d", l, s.Kept(), x)
		}
		runs++
	})
	if runs < 500 {
		t.Errorf("only %d runs", runs)
	}
}

func TestTheLineIsAbove(t *testing.T) { // P6.6
	eachRun(t, func(s *Sagged, l *copies) {
		over := (l.c.Rest - l.c.First) * l.c.Length
		for _, n := range l.ticks() {
			has, line := s.At(n), s.Line(n)
			if line < has || line-has > over {
				t.Fatalf("%v at %d: %d, its line %d", l, n, has, line)
			}
			if s.Starts() > 0 && n >= l.last()+l.c.Length && line != min(has+over, api.Cap) {
				t.Fatalf("%v at %d, behind all corners: %d, its line %d", l, n, has, line)
			}
		}
	})
}

func TestOwedAndSentAhead(t *testing.T) { // P6.7
	eachRun(t, func(s *Sagged, l *copies) {
		ticks := l.ticks()
		var has []uint64
		for _, n := range ticks {
			has = append(has, s.At(n))
		}
		for i, n := range ticks {
			line := s.Line(n)
			for k, later := range ticks[i:] {
				if has[i+k] > line+curve.At(l.c, later-n) {
					t.Fatalf("%v: %d at %d, the line at %d %d", l, has[i+k], later, n, line)
				}
			}
		}
	})
}

func TestThereAndBack(t *testing.T) { // P6.8
	eachRun(t, func(s *Sagged, l *copies) {
		last, is := s.Last()
		for _, y := range l.amounts() {
			for i, x := range []struct {
				n  uint64
				at func(t uint64) uint64
			}{{s.Reach(y), s.At}, {s.Ahead(y), s.Line}} {
				if x.n > api.Never || is && x.n < last {
					t.Fatalf("%v: %d (%d) at %d", l, y, i, x.n)
				}
				if x.n < api.Never && x.at(x.n) < y {
					t.Fatalf("%v: %d (%d) at %d, where it has %d", l, y, i, x.n, x.at(x.n))
				}
				if x.n > last && x.at(x.n-1) >= y {
					t.Fatalf("%v: %d (%d) at %d, though it had %d a tick ahead", l, y, i, x.n, x.at(x.n-1))
				}
			}
			if s.Ahead(y) > s.Reach(y) {
				t.Fatalf("%v: the line has %d at %d, the run at %d", l, y, s.Ahead(y), s.Reach(y))
			}
		}
	})
}

// TestMany: copies that are all kept are asked, started, and left out again, so many that they can't be gone through one by one each time.
func TestMany(t *testing.T) { // P6.1, P6.2, P6.3, P6.5
	const many, length = 200_000, 1 << 20
	s, _ := made(t, of(0, length, 2))
	for k := uint64(0); k < many; k++ {
		s.Start(k, k)
		if s.At(length/2) != 0 || s.Line(k) != k {
			t.Fatalf("%d: %d %d", k, s.At(length/2), s.Line(k))
		}
	}
	if s.Kept() != many || s.Starts() != many {
		t.Fatalf("%d kept", s.Kept())
	}
	for k := uint64(0); k < many; k++ {
		// At its own corner the k-th one is the least.
		if s.At(length+k) != k || s.Reach(k+1) != length+k+1 && k+1 < many {
			t.Fatalf("%d at %d, reached at %d", s.At(length+k), length+k, s.Reach(k+1))
		}
	}
	if s.At(length+many) != many+1 || s.Reach(many) != length+many || s.Reach(many+4) != length+many+2 || s.Ahead(many+1) != many {
		t.Errorf("%d %d", s.At(length+many), s.Reach(many))
	}
	for k := uint64(0); k < many; k += 2 {
		s.Start(length+k, api.Cap)
		if s.Kept() != many-int(k) || s.At(0) != k {
			t.Fatalf("at %d: %d kept, %d", length+k, s.Kept(), s.At(0))
		}
	}
	s.Start(length+many, 0)
	if s.Kept() != 1 || s.At(0) != 0 {
		t.Errorf("%d kept, %d", s.Kept(), s.At(0))
	}
}
