package bent

import (
	"math/big"
	"math/rand"
	"slices"
	"testing"

	"distributary/api"
	"distributary/curve"
)

const top = 1<<64 - 1

func of(first, length, rest uint64) api.Curve {
	return api.Curve{First: first, Length: length, Rest: rest}
}

// written is DOC.md's 'It may be' and 'It is bent', word by word.
func written(c api.Curve) bool {
	if c.First > api.MaxSlope || c.Rest > api.MaxSlope || c.Length > api.MaxTick {
		return false
	}
	return c.Length != 0 && c.First > c.Rest
}

// grid is each curve of such slopes and lengths, bent or not, may it be or not.
func grid(slopes, lengths []uint64) []api.Curve {
	var l []api.Curve
	for _, first := range slopes {
		for _, length := range lengths {
			for _, rest := range slopes {
				l = append(l, of(first, length, rest))
			}
		}
	}
	return l
}

// those are the curves of the list that are bent and may be.
func those(l []api.Curve) []api.Curve {
	return slices.DeleteFunc(l, func(c api.Curve) bool { return !written(c) })
}

// small are curves whose runs can be gone up tick by tick.
func small() []api.Curve { return those(grid([]uint64{0, 1, 2, 3, 7}, []uint64{1, 2, 5, 10})) }

// wild are curves at all limits.
func wild() []api.Curve {
	return those(grid([]uint64{0, 1, 3, api.MaxSlope - 1, api.MaxSlope}, []uint64{1, 10, 1000, api.MaxTick - 1, api.MaxTick}))
}

func number(n uint64) *big.Int { return new(big.Int).SetUint64(n) }

func product(a, b uint64) *big.Int { return new(big.Int).Mul(number(a), number(b)) }

// stopped is n, or Cap if n is more.
func stopped(n *big.Int) uint64 {
	if n.Cmp(number(api.Cap)) > 0 {
		return api.Cap
	}
	return n.Uint64()
}

// start is where a copy starts, and from what on.
type start struct{ x, y uint64 }

// copies are all copies of a run, as the chapter's words have them.
type copies struct {
	c   api.Curve
	all []start
}

func (l *copies) start(x, y uint64) {
	l.all = append(l.all, start{max(min(x, api.Never), l.last()), min(y, api.Cap)})
}

func (l *copies) last() uint64 {
	if len(l.all) == 0 {
		return 0
	}
	return l.all[len(l.all)-1].x
}

// least is the least, of all copies, of y and what so many ticks from the copy's start on come to; stopped; 0 without copies.
func (l *copies) least(t uint64, grains func(ticks uint64) *big.Int) uint64 {
	var least *big.Int
	for _, s := range l.all {
		has := grains(max(t, l.last()) - s.x)
		has.Add(has, number(s.y))
		if least == nil || has.Cmp(least) < 0 {
			least = has
		}
	}
	if least == nil {
		return 0
	}
	return stopped(least)
}

// at is what the copies have at t, the least of all.
func (l *copies) at(t uint64) uint64 {
	return l.least(t, func(ticks uint64) *big.Int {
		n := product(l.c.First, min(ticks, l.c.Length))
		if ticks > l.c.Length {
			n.Add(n, product(l.c.Rest, ticks-l.c.Length))
		}
		return n
	})
}

// lines are the heights of both lines, each the least of all copies' own.
func (l *copies) lines() (first, rest uint64) {
	first = l.least(0, func(ticks uint64) *big.Int { return product(l.c.First, ticks) })
	rest = l.least(0, func(ticks uint64) *big.Int {
		n := product(l.c.First-l.c.Rest, l.c.Length)
		return n.Add(n, product(l.c.Rest, ticks))
	})
	return first, rest
}

// reach is the first tick below Never, from the last start on, at which they have y at least, else Never: by halving what is left, as nothing falls.
func (l *copies) reach(y uint64) uint64 {
	if len(l.all) == 0 && y == 0 {
		return 0
	}
	low, high := l.last(), uint64(api.Never)
	for low < high {
		if t := low + (high-low)/2; l.at(t) >= y {
			high = t
		} else {
			low = t + 1
		}
	}
	return low
}

// beside are the numbers of the list, and those one less and one more, as far as there are any; rising.
func beside(l ...uint64) []uint64 {
	var all []uint64
	for _, n := range l {
		all = append(all, n)
		if n > 0 {
			all = append(all, n-1)
		}
		if n < top {
			all = append(all, n+1)
		}
	}
	slices.Sort(all)
	return slices.Compact(all)
}

// ticks are those at which something turns on the run.
func (l *copies) ticks() []uint64 {
	at := []uint64{0, 10, api.MaxTick, api.Cap, api.Never, top}
	for _, s := range l.all {
		at = append(at, s.x, s.x+l.c.Length, s.x+l.c.Length/2)
	}
	// Where the two lines cross, and where all stops.
	first, rest := l.lines()
	if rest > first {
		at = append(at, l.last()+(rest-first)/(l.c.First-l.c.Rest))
	}
	return beside(append(at, l.reach(api.Cap))...)
}

// amounts are those at which something turns on the run.
func (l *copies) amounts() []uint64 {
	y := []uint64{0, 7, 100, api.Cap, api.Never, top}
	for _, t := range l.ticks() {
		y = append(y, l.at(t))
	}
	return beside(y...)
}

// made is a run of that curve, with such copies, and the words' own one of them.
func made(t *testing.T, c api.Curve, all ...start) (*Bent, *copies) {
	t.Helper()
	b, e := New(c)
	if b == nil || e != api.OK {
		t.Fatalf("%v: %v", c, e)
	}
	l := &copies{c: c}
	for _, s := range all {
		b.Start(s.x, s.y)
		l.start(s.x, s.y)
	}
	return b, l
}

// some are up to n starts of a run of that curve: from nearly what it has there, from it, from less, from more, or from anything.
func some(r *rand.Rand, c api.Curve, n int, far bool) []start {
	l := &copies{c: c}
	given := []start{}
	for range r.Intn(n + 1) {
		x := l.last() + uint64(r.Intn(int(c.Length%30)+8))
		if far && r.Intn(3) == 0 {
			x = l.last() + uint64(r.Int63())>>r.Intn(50)
		}
		if far && r.Intn(9) == 0 {
			x = api.Never - 30 + uint64(r.Intn(40))
		}
		if r.Intn(6) == 0 {
			x = l.last() - min(l.last(), uint64(r.Intn(9)))
		}
		y := l.at(x)
		switch r.Intn(5) {
		case 0:
			y -= min(y, uint64(r.Intn(20)))
		case 1:
			y += uint64(r.Intn(20))
		case 2:
			y /= 2
		case 3:
			y = uint64(r.Intn(60))
		}
		if far && r.Intn(4) == 0 {
			y = r.Uint64() >> r.Intn(64)
		}
		given = append(given, start{x, y})
		l.start(x, y)
	}
	return given
}

// eachRun goes over many runs, of small curves and at all limits.
func eachRun(t *testing.T, do func(b *Bent, l *copies)) {
	r := rand.New(rand.NewSource(5))
	for _, c := range small() {
		for range 12 {
			do(made(t, c, some(r, c, 6, false)...))
		}
	}
	for _, c := range wild() {
		for range 6 {
			do(made(t, c, some(r, c, 5, true)...))
		}
	}
}

func TestChapterExample(t *testing.T) { // P5.1, P5.2, P5.3
	b, _ := made(t, of(4, 10, 1), start{0, 0})
	if b.At(10) != 40 || b.At(20) != 50 {
		t.Errorf("%d %d", b.At(10), b.At(20))
	}
	b.Start(20, 45)
	if first, rest := b.Lines(); first != 45 || rest != 50 {
		t.Errorf("heights %d %d", first, rest)
	}
	for at, want := range map[uint64]uint64{20: 45, 21: 49, 22: 52, 23: 53} {
		if y := b.At(at); y != want {
			t.Errorf("at %d: %d, not %d", at, y, want)
		}
	}
	if x, is := b.Last(); x != 20 || !is || b.Starts() != 2 {
		t.Errorf("%d %v %d", x, is, b.Starts())
	}
	for y, want := range map[uint64]uint64{0: 20, 45: 20, 46: 21, 49: 21, 50: 22, 52: 22, 53: 23, 54: 24} {
		if n := b.Reach(y); n != want {
			t.Errorf("%d at %d, not %d", y, n, want)
		}
	}
}

func TestNewExamples(t *testing.T) { // P5.1
	for i, x := range []struct {
		c api.Curve
		e api.Errno
	}{
		{of(3, 10, 1), api.OK},
		{of(1, 1, 0), api.OK},
		{of(api.MaxSlope, api.MaxTick, api.MaxSlope-1), api.OK},
		{of(0, 0, 0), api.ErrCurve},  // none
		{of(0, 0, 5), api.ErrCurve},  // a straight one
		{of(1, 10, 3), api.ErrCurve}, // one that sags
		{of(0, 10, 3), api.ErrCurve}, // and so does this
		{of(3, 10, 3), api.ErrCurve}, // nor may these be
		{of(3, 0, 1), api.ErrCurve},  // with a First that is nowhere
		{of(0, 10, 0), api.ErrCurve}, // none, told in another way
		{of(api.MaxSlope+1, 10, 1), api.ErrCurve},
		{of(api.MaxSlope, api.MaxTick+1, 1), api.ErrCurve},
		{of(top, 10, api.MaxSlope+1), api.ErrCurve},
		{of(top, top, 0), api.ErrCurve},
	} {
		b, e := New(x.c)
		if e != x.e || (b == nil) != (e != api.OK) {
			t.Errorf("%d: %v", i, e)
		}
	}
}

func TestNewOfAll(t *testing.T) { // P5.1
	slopes := []uint64{0, 1, 2, 5, api.MaxSlope - 1, api.MaxSlope, api.MaxSlope + 1, api.Cap, top}
	lengths := []uint64{0, 1, 10, api.MaxTick, api.MaxTick + 1, api.Never, top}
	for _, c := range grid(slopes, lengths) {
		b, e := New(c)
		if (e == api.OK) != written(c) || (b != nil) != written(c) || e != api.OK && e != api.ErrCurve {
			t.Errorf("%v: %v", c, e)
		}
	}
}

// without checks what a run without copies tells.
func without(t *testing.T, b *Bent) {
	t.Helper()
	for _, n := range []uint64{0, 1, 10, api.Cap, api.Never, top} {
		if b.At(n) != 0 {
			t.Errorf("at %d: %d", n, b.At(n))
		}
		if n > 0 && b.Reach(n) != api.Never {
			t.Errorf("%d at %d", n, b.Reach(n))
		}
	}
	if b.Reach(0) != 0 {
		t.Errorf("0 at %d", b.Reach(0))
	}
	if x, is := b.Last(); x != 0 || is {
		t.Errorf("%d %v", x, is)
	}
	if first, rest := b.Lines(); first != 0 || rest != 0 {
		t.Errorf("heights %d %d", first, rest)
	}
	if b.Starts() != 0 {
		t.Errorf("%d started", b.Starts())
	}
}

func TestWithoutCopies(t *testing.T) { // P5.1, P5.2, P5.3
	for _, c := range append(small(), wild()...) {
		b, _ := made(t, c)
		without(t, b)
		without(t, b.Copy())
		other := b.Copy()
		other.Start(5, 7) // one that was made, though it has no copies: they may start
		if other.At(5) != 7 || other.Starts() != 1 {
			t.Errorf("%v: %d", c, other.At(5))
		}
		without(t, b)
	}
}

func TestNobodyMade(t *testing.T) { // P5.1, P5.2, P5.3
	var none *Bent
	none.Start(1, 1)
	without(t, none)
	if none.Copy() != nil {
		t.Error("a copy of nil")
	}
	zero := &Bent{}
	zero.Start(1, 1)
	zero.Start(7, 0)
	without(t, zero)
	same := zero.Copy()
	if same == nil || same == zero {
		t.Fatal("no copy")
	}
	same.Start(1, 1)
	without(t, same)
}

func TestStartExamples(t *testing.T) { // P5.1, P5.2, P5.3
	c := of(4, 10, 1) // heights differ by 30, if one copy counts alone
	for i, x := range []struct {
		all         []start
		last        uint64
		first, rest uint64
	}{
		{[]start{{100, 7}}, 100, 7, 37},
		{[]start{{0, 0}, {5, 20}}, 5, 20, 35},
		{[]start{{0, 0}, {5, 19}}, 5, 19, 35},
		{[]start{{0, 0}, {5, 21}}, 5, 20, 35}, // one that is never the least
		{[]start{{0, 0}, {5, 4}}, 5, 4, 34},
		{[]start{{0, 0}, {5, 5}}, 5, 5, 35},
		{[]start{{0, 0}, {50, 0}}, 50, 0, 30},
		{[]start{{0, 0}, {50, 60}}, 50, 60, 80},
		{[]start{{0, 0}, {50, 80}}, 50, 80, 80}, // the first copy's corner is behind
		{[]start{{0, 0}, {50, 1000}}, 50, 200, 80},
		// At one tick, in either order.
		{[]start{{9, 8}, {9, 5}}, 9, 5, 35},
		{[]start{{9, 5}, {9, 8}}, 9, 5, 35},
		{[]start{{9, 5}, {9, 5}}, 9, 5, 35},
		// Ahead of the last one: as at that tick.
		{[]start{{9, 5}, {4, 1}}, 9, 1, 31},
		{[]start{{9, 5}, {0, 6}}, 9, 5, 35},
		{[]start{{0, 0}, {20, 45}, {19, 44}, {30, 55}}, 30, 55, 60},
		// Beyond Never, and Cap.
		{[]start{{api.Never, 3}}, api.Never, 3, 33},
		{[]start{{api.Never + 1, 3}}, api.Never, 3, 33},
		{[]start{{top, 3}, {top, 2}}, api.Never, 2, 32},
		{[]start{{top, 3}, {0, 2}}, api.Never, 2, 32},
		{[]start{{6, api.Cap}}, 6, api.Cap, api.Cap},
		{[]start{{6, api.Cap + 1}}, 6, api.Cap, api.Cap},
		{[]start{{6, top}}, 6, api.Cap, api.Cap},
		{[]start{{6, top}, {7, 1}}, 7, 1, 31},
		{[]start{{6, api.Cap - 10}}, 6, api.Cap - 10, api.Cap},
		{[]start{{6, api.Cap - 31}, {7, top}}, 7, api.Cap - 27, api.Cap},
		{[]start{{6, 0}, {api.Never - 1, api.Cap}}, api.Never - 1, api.Cap, api.Cap},
	} {
		b, _ := made(t, c, x.all...)
		first, rest := b.Lines()
		last, is := b.Last()
		if first != x.first || rest != x.rest {
			t.Errorf("%d: heights %d %d, not %d %d", i, first, rest, x.first, x.rest)
		}
		if last != x.last || !is || b.Starts() != len(x.all) {
			t.Errorf("%d: %d %v %d", i, last, is, b.Starts())
		}
	}
}

func TestStartsOfAll(t *testing.T) { // P5.1, P5.3
	eachRun(t, func(b *Bent, l *copies) {
		if x, is := b.Last(); x != l.last() || is != (len(l.all) > 0) || b.Starts() != len(l.all) {
			t.Fatalf("%v: %d %v %d", l, x, is, b.Starts())
		}
		first, rest := b.Lines()
		if p, q := l.lines(); first != p || rest != q {
			t.Fatalf("%v: heights %d %d, not %d %d", l, first, rest, p, q)
		}
	})
}

func TestAtReachTickByTick(t *testing.T) { // P5.2
	r := rand.New(rand.NewSource(2))
	for _, c := range small() {
		for range 20 {
			b, l := made(t, c, some(r, c, 6, false)...)
			y := uint64(0) // of what it is asked next when it is reached
			for n := range l.last() + 60 {
				has := l.at(n)
				if b.At(n) != has {
					t.Fatalf("%v at %d: %d, not %d", l, n, b.At(n), has)
				}
				for ; n >= l.last() && y <= has; y++ {
					if b.Reach(y) != n {
						t.Fatalf("%v: %d at %d, not %d", l, y, b.Reach(y), n)
					}
				}
			}
		}
	}
}

func TestAtReachOfAll(t *testing.T) { // P5.2
	eachRun(t, func(b *Bent, l *copies) {
		for _, n := range l.ticks() {
			if b.At(n) != l.at(n) {
				t.Fatalf("%v at %d: %d, not %d", l, n, b.At(n), l.at(n))
			}
		}
		for _, y := range l.amounts() {
			if b.Reach(y) != l.reach(y) {
				t.Fatalf("%v: %d at %d, not %d", l, y, b.Reach(y), l.reach(y))
			}
		}
	})
}

func TestAheadOfTheLastStart(t *testing.T) { // P5.2
	b, _ := made(t, of(4, 10, 1), start{100, 7}, start{120, 50})
	for _, n := range []uint64{0, 1, 99, 100, 110, 119, 120} {
		if b.At(n) != 50 {
			t.Errorf("at %d: %d", n, b.At(n))
		}
	}
	for _, y := range []uint64{0, 7, 8, 49, 50} {
		if b.Reach(y) != 120 {
			t.Errorf("%d at %d", y, b.Reach(y))
		}
	}
}

func TestReachFar(t *testing.T) { // P5.2
	for i, x := range []struct {
		c       api.Curve
		from    start
		y, want uint64
	}{
		{of(3, 5, 0), start{0, 0}, 15, 5},
		{of(3, 5, 0), start{0, 0}, 16, api.Never}, // nothing is added any more
		{of(3, 5, 0), start{9, 4}, 19, 14},
		{of(3, 5, 0), start{9, 4}, 20, api.Never},
		{of(2, 1, 1), start{0, 0}, api.Cap, api.Cap - 1},
		{of(2, 1, 1), start{0, 0}, api.Cap + 1, api.Never}, // what it has stops at Cap
		{of(2, 1, 1), start{0, 0}, top, api.Never},
		{of(2, 1, 1), start{0, top}, api.Cap, 0},
		{of(2, 1, 1), start{0, top}, api.Cap + 1, api.Never},
		// Reached just ahead of Never, at it, and later.
		{of(2, 1, 1), start{api.Never - 10, 0}, 10, api.Never - 1},
		{of(2, 1, 1), start{api.Never - 10, 0}, 11, api.Never},
		{of(2, 1, 1), start{api.Never - 10, 0}, 12, api.Never},
		{of(2, 1, 1), start{api.Never - 10, 0}, api.Cap, api.Never},
		{of(2, 1, 1), start{api.Never - 10, 7}, 7, api.Never - 10},
		{of(2, 1, 0), start{api.Never - 10, 7}, api.Cap, api.Never},
		{of(2, 1, 1), start{api.Never - 1, 0}, 0, api.Never - 1},
		{of(2, 1, 1), start{api.Never - 1, 0}, 1, api.Never},
		{of(2, 1, 1), start{api.Never, 5}, 0, api.Never}, // though it has that there
		{of(2, 1, 1), start{top, 5}, 5, api.Never},
		{of(2, 1, 0), start{top, 5}, 100, api.Never},
		{of(2, 1, 1), start{top, top}, api.Cap, api.Never},
	} {
		b, _ := made(t, x.c, x.from)
		if n := b.Reach(x.y); n != x.want {
			t.Errorf("%d: %d, not %d", i, n, x.want)
		}
	}
}

func TestAtFar(t *testing.T) { // P5.2
	for i, x := range []struct {
		c        api.Curve
		from     start
		at, want uint64
	}{
		{of(3, 5, 0), start{0, 0}, top, 15},
		{of(3, 5, 0), start{api.Never, 0}, top, 15},
		{of(3, 5, 0), start{top, 1}, api.Never + 2, 7},
		{of(3, 5, 0), start{top, 1}, api.Never, 1},
		{of(3, 5, 0), start{top, 1}, 0, 1},
		{of(2, 1, 1), start{0, 0}, api.Cap - 2, api.Cap - 1},
		{of(2, 1, 1), start{0, 0}, api.Cap - 1, api.Cap},
		{of(2, 1, 1), start{0, 0}, api.Cap, api.Cap},
		{of(2, 1, 1), start{0, 0}, top, api.Cap},
		{of(2, 1, 0), start{0, api.Cap - 1}, 1, api.Cap},
		{of(2, 1, 0), start{0, top}, 0, api.Cap},
		{of(api.MaxSlope, api.MaxTick, 0), start{0, 0}, api.MaxTick, api.MaxSlope * api.MaxTick},
		{of(api.MaxSlope, api.MaxTick, api.MaxSlope-1), start{0, 0}, top, api.Cap},
	} {
		b, _ := made(t, x.c, x.from)
		if y := b.At(x.at); y != x.want {
			t.Errorf("%d: %d, not %d", i, y, x.want)
		}
	}
}

func TestCopyIsItsOwn(t *testing.T) { // P5.3
	eachRun(t, func(b *Bent, l *copies) {
		same := b.Copy()
		if same == nil || same == b || *same != *b {
			t.Fatalf("%v: no copy", l)
		}
		was := *b
		same.Start(l.last()+3, 0)
		if *b != was || same.Starts() != b.Starts()+1 || same.At(0) != 0 {
			t.Fatalf("%v: changed with its copy", l)
		}
		second := b.Copy()
		b.Start(l.last()+5, 0)
		if *second != was || b.Starts() != second.Starts()+1 {
			t.Fatalf("%v: the copy changed with it", l)
		}
		if x, _ := same.Last(); x != min(l.last()+3, api.Never) {
			t.Fatalf("%v: the first copy: %d", l, x)
		}
	})
}

func TestAskingChangesNothing(t *testing.T) { // P5.2, P5.3
	eachRun(t, func(b *Bent, l *copies) {
		was := *b
		for _, n := range []uint64{0, l.last() + 9, top} {
			b.At(n)
			b.Reach(n)
		}
		b.Lines()
		b.Last()
		b.Copy().Start(top, 0)
		if *b != was {
			t.Fatalf("%v: changed", l)
		}
	})
}

func TestTwoAreEnough(t *testing.T) { // P5.4
	eachRun(t, func(b *Bent, l *copies) {
		if b.Starts() == 0 {
			return
		}
		first, rest := b.Lines()
		last, _ := b.Last()
		for _, n := range l.ticks() {
			behind := max(n, last) - last
			p := stopped(new(big.Int).Add(number(first), product(l.c.First, behind)))
			q := stopped(new(big.Int).Add(number(rest), product(l.c.Rest, behind)))
			if b.At(n) != min(p, q) {
				t.Fatalf("%v at %d: %d, not the lesser one of %d and %d", l, n, b.At(n), p, q)
			}
		}
	})
}

func TestEachCopyMakesNothingMore(t *testing.T) { // P5.5
	r := rand.New(rand.NewSource(7))
	eachRun(t, func(b *Bent, l *copies) {
		if b.Starts() == 0 {
			return
		}
		for _, y := range []uint64{0, 1, b.At(l.last()), uint64(r.Intn(1000)), r.Uint64() >> r.Intn(64), top} {
			more := b.Copy()
			more.Start(l.last()+uint64(r.Intn(20)), y)
			x, _ := more.Last()
			for _, n := range append(l.ticks(), x) {
				if n >= x && more.At(n) > b.At(n) {
					t.Fatalf("%v, and %d at %d: %d at %d, which was %d", l, y, x, more.At(n), n, b.At(n))
				}
			}
		}
	})
}

func TestACopyFromWhatItHas(t *testing.T) { // P5.5
	eachRun(t, func(b *Bent, l *copies) {
		if b.Starts() == 0 {
			return
		}
		for _, x := range l.ticks() {
			y := b.At(x)
			more := b.Copy()
			more.Start(x, y)
			if more.At(x) != y {
				t.Fatalf("%v: %d at %d, and with a copy from there on %d", l, y, x, more.At(x))
			}
		}
	})
}

func TestShort(t *testing.T) { // P5.6
	eachRun(t, func(b *Bent, l *copies) {
		at := l.ticks()
		for _, from := range at {
			for _, to := range at {
				if to >= from && (b.At(to) < b.At(from) || b.At(to)-b.At(from) > curve.At(l.c, to-from)) {
					t.Fatalf("%v: %d at %d, %d at %d", l, b.At(from), from, b.At(to), to)
				}
			}
		}
	})
}

func TestThereAndBack(t *testing.T) { // P5.7
	eachRun(t, func(b *Bent, l *copies) {
		last, is := b.Last()
		for _, y := range l.amounts() {
			n := b.Reach(y)
			if n > api.Never || is && n < last {
				t.Fatalf("%v: %d at %d", l, y, n)
			}
			if n < api.Never && b.At(n) < y {
				t.Fatalf("%v: %d at %d, where it has %d", l, y, n, b.At(n))
			}
			if n > last && b.At(n-1) >= y {
				t.Fatalf("%v: %d at %d, though it had %d a tick ahead", l, y, n, b.At(n-1))
			}
		}
	})
}
