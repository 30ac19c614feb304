package admit

import (
	"fmt"
	"math"
	"math/big"
	"math/rand"
	"slices"
	"testing"

	"distributary/api"
	"distributary/curve"
	"distributary/sums"
)

const (
	top  = 1<<64 - 1
	last = api.Never - 1 // the last tick that counts
)

func of(first, length, rest uint64) api.Curve {
	return api.Curve{First: first, Length: length, Rest: rest}
}

func straight(slope uint64) api.Curve { return of(0, 0, slope) }

func number(n uint64) *big.Int { return new(big.Int).SetUint64(n) }

func product(a, b uint64) *big.Int { return new(big.Int).Mul(number(a), number(b)) }

// has is what those curves have at t together, in big numbers.
func has(l []api.Curve, t uint64) *big.Int {
	sum := new(big.Int)
	for _, c := range l {
		sum.Add(sum, product(c.First, min(t, c.Length)))
		sum.Add(sum, product(c.Rest, max(t, c.Length)-c.Length))
	}
	return sum
}

// less is by how much they have less at t than the rate gives till then; below 0, if they have more.
func less(l []api.Curve, rate, t uint64) *big.Int {
	left := product(rate, t)
	return left.Sub(left, has(l, t))
}

// turns are the ticks at which they could be late, if they are: their corners, and the ends.
func turns(l []api.Curve) []uint64 {
	at := []uint64{1, last}
	for _, c := range l {
		if c.Length > 0 {
			at = append(at, c.Length)
		}
	}
	slices.Sort(at)
	return slices.Compact(at)
}

// kept is DOC.md's 'can be kept'.
func kept(l []api.Curve, rate uint64) bool {
	for _, t := range turns(l) {
		if less(l, rate, t).Sign() < 0 {
			return false
		}
	}
	return true
}

// spare is the greatest slope of a straight curve that can be kept beside them.
func spare(l []api.Curve, rate uint64) uint64 {
	least := rate
	for _, t := range turns(l) {
		least = min(least, new(big.Int).Div(less(l, rate, t), number(t)).Uint64())
	}
	return least
}

// noted is a live curve and its Id.
type noted struct {
	id int
	c  api.Curve
}

// plain is a book told by the chapter's words, in rows: the live curves in the order in which they came, and the ghosts.
type plain struct {
	rate   uint64
	live   []noted
	ghosts []api.Curve
}

func (p plain) get(id int) (api.Curve, bool) {
	for _, n := range p.live {
		if n.id == id {
			return n.c, true
		}
	}
	return api.Curve{}, false
}

func (p plain) ids() []int {
	var l []int
	for _, n := range p.live {
		l = append(l, n.id)
	}
	slices.Sort(l)
	return l
}

// all are all live curves and ghosts.
func (p plain) all() []api.Curve {
	l := slices.Clone(p.ghosts)
	for _, n := range p.live {
		l = append(l, n.c)
	}
	return l
}

// fits is the chapter's 'A curve is admitted'.
func (p plain) fits(c api.Curve) bool {
	if c == (api.Curve{}) {
		return true
	}
	return curve.May(c) && kept(append(p.all(), c), p.rate)
}

func (p plain) drop(id int, keep bool) (plain, bool) {
	own, is := p.get(id)
	if !is {
		return p, false
	}
	p.live = slices.DeleteFunc(slices.Clone(p.live), func(n noted) bool { return n.id == id })
	if keep {
		p.ghosts = append(slices.Clone(p.ghosts), own)
	}
	return p, true
}

func (p plain) note(id int, c api.Curve) plain {
	if c != (api.Curve{}) {
		p.live = append(slices.Clone(p.live), noted{id, c})
	}
	return p
}

func (p plain) put(id int, c api.Curve) (plain, api.Errno) {
	_, is := p.get(id)
	for _, x := range []struct {
		holds bool
		e     api.Errno
	}{{curve.May(c), 30}, {!is, 80}, {p.fits(c), 170}} {
		if !x.holds {
			return p, x.e
		}
	}
	return p.note(id, c), 0
}

func (p plain) swap(id int, c api.Curve, keep bool) (plain, api.Errno) {
	if !curve.May(c) {
		return p, 30
	}
	then, _ := p.drop(id, keep)
	if !then.fits(c) {
		return p, 170
	}
	return then.note(id, c), 0
}

func (p plain) settle() (plain, int) {
	many := len(p.ghosts)
	p.ghosts = nil
	return p, many
}

// edges are Ids that no curve has, or that some have.
func edges() []int {
	return []int{math.MinInt, math.MinInt + 1, -1 << 32, -1 << 16, -2, -1, 0, 1, 2, 3, 4, 5, 63, 64, 65535, 65536, 1 << 32, 1<<32 + 1, math.MaxInt - 1, math.MaxInt}
}

// barred are curves that may not be.
func barred() []api.Curve {
	return []api.Curve{of(3, 0, 3), of(1, 0, 0), of(1, 0, 2), of(3, 3, 3), of(0, 1, 0), of(0, api.MaxTick, 0), straight(api.MaxSlope + 1), of(0, 1, api.MaxSlope+1), of(api.MaxSlope+1, 1, 0), of(1, api.MaxTick+1, 0), of(0, api.MaxTick+1, 1), straight(top), of(top, top, top), of(0, top, 0), of(top, 0, 0), straight(api.Never), of(0, 0, 1<<32)}
}

// asks are curves of which a book of that rate, with those in it, is asked, some of which just fit, and some just don't.
func asks(l []api.Curve, rate uint64) []api.Curve {
	n := spare(l, rate)
	asked := []api.Curve{{}, straight(1), straight(n), straight(n + 1), straight(rate), straight(rate + 1), straight(api.MaxSlope), of(1, 1, 0), of(n, 5, n+1), of(n+1, 5, n), of(n+1, api.MaxTick, 0), of(0, api.MaxTick, 1), of(0, 3, n+1), of(0, api.MaxTick, api.MaxSlope)}
	for _, t := range turns(l) { // just what is left up to a corner, by slopes as steep as can be, and more
		if t > api.MaxTick || t < 2 {
			continue
		}
		m := new(big.Int).Div(less(l, rate, t), number(t)).Uint64()
		asked = append(asked, of(m, t, 0), of(m+1, t, 0), of(0, t-1, m*t), of(0, t-1, m*t+1), of(m, t-1, n), of(m+1, t-1, n), of(0, t, n), of(0, t, n+1))
	}
	return append(asked, barred()...)
}

// same checks that a book tells what the plain one has.
func same(t *testing.T, x *Book, p plain, ids ...int) {
	t.Helper()
	if r := x.Rate(); r != p.rate {
		t.Fatalf("%v: its rate is %d", p, r)
	}
	if l := x.Ids(); !slices.Equal(l, p.ids()) || len(p.live) == 0 && l != nil {
		t.Fatalf("%v: ids %#v", p, l)
	}
	if l := x.Ghosts(); !slices.Equal(l, p.ghosts) || len(p.ghosts) == 0 && l != nil {
		t.Fatalf("%v: ghosts %#v", p, l)
	}
	for _, n := range p.live {
		ids = append(ids, n.id, n.id-1, n.id+1)
	}
	for _, id := range append(ids, edges()...) {
		want, is := p.get(id)
		if c, too := x.Live(id); c != want || is != too {
			t.Fatalf("%v: %d has %v %v", p, id, c, too)
		}
	}
}

// holds checks besides that it asks of curves what the plain one does, and that what it tells can be kept.
func holds(t *testing.T, x *Book, p plain, ids ...int) {
	t.Helper()
	same(t, x, p, ids...)
	for _, c := range asks(p.all(), p.rate) {
		if is := x.Fits(c); is != p.fits(c) {
			t.Fatalf("%v: %v fits: %v", p, c, is)
		}
	}
	isKept(t, x)
}

// told are all live curves and ghosts of a book, by what it tells alone.
func told(x *Book) []api.Curve {
	l := x.Ghosts()
	for _, id := range x.Ids() {
		c, _ := x.Live(id)
		l = append(l, c)
	}
	return l
}

// isKept checks P17.5, tick by tick: the first ones, those about each corner, and some far away.
func isKept(t *testing.T, x *Book) {
	t.Helper()
	l := told(x)
	at := []uint64{api.MaxTick, api.MaxTick + 1, 1 << 41, 1 << 52, api.Cap, last - 1, last}
	for n := range uint64(60) {
		at = append(at, n)
	}
	for _, n := range turns(l) {
		at = append(at, n-1, n, min(n+1, last))
	}
	for _, n := range at {
		if less(l, x.Rate(), n).Sign() < 0 {
			t.Fatalf("%v: at %d more than by %d", l, n, x.Rate())
		}
	}
	if slices.ContainsFunc(l, func(c api.Curve) bool { return c == api.Curve{} || !curve.May(c) }) {
		t.Fatalf("%v are kept", l)
	}
}

// both are a book and a plain one, of which each step is held against the other.
type both struct {
	t *testing.T
	x *Book
	p plain
}

func made(t *testing.T, rate uint64) *both {
	t.Helper()
	x, e := New(rate)
	if e != api.OK {
		t.Fatalf("of %d: %d", rate, e)
	}
	b := &both{t: t, x: x, p: plain{rate: rate}}
	holds(t, b.x, b.p)
	return b
}

// as has the plain one be that, and holds what was told, and the book, against it.
func as[T comparable](b *both, what string, id int, got, want T, p plain) T {
	b.t.Helper()
	if got != want {
		b.t.Fatalf("%v: %s %d: %v, not %v", b.p, what, id, got, want)
	}
	b.p = p
	holds(b.t, b.x, b.p, id)
	return got
}

func (b *both) tryPut(id int, c api.Curve) api.Errno {
	b.t.Helper()
	p, want := b.p.put(id, c)
	return as(b, fmt.Sprint("put ", c), id, b.x.Put(id, c), want, p)
}

func (b *both) trySwap(id int, c api.Curve, keep bool) api.Errno {
	b.t.Helper()
	p, want := b.p.swap(id, c, keep)
	return as(b, fmt.Sprint("swap ", c, keep), id, b.x.Swap(id, c, keep), want, p)
}

func (b *both) tryDrop(id int, keep bool) bool {
	b.t.Helper()
	p, want := b.p.drop(id, keep)
	return as(b, fmt.Sprint("drop ", keep), id, b.x.Drop(id, keep), want, p)
}

func (b *both) trySettle() int {
	b.t.Helper()
	p, want := b.p.settle()
	return as(b, "settle", 0, b.x.Settle(), want, p)
}

// wants checks that something was told that is wanted.
func wants[T comparable](b *both, what string, id int, got, want T) {
	b.t.Helper()
	if got != want {
		b.t.Fatalf("%v: %s %d: %v, not %v", b.p, what, id, got, want)
	}
}

func (b *both) put(id int, c api.Curve, want api.Errno) {
	b.t.Helper()
	wants(b, fmt.Sprint("put ", c), id, b.tryPut(id, c), want)
}

func (b *both) swap(id int, c api.Curve, keep bool, want api.Errno) {
	b.t.Helper()
	wants(b, fmt.Sprint("swap ", c, keep), id, b.trySwap(id, c, keep), want)
}

func (b *both) drop(id int, keep, want bool) {
	b.t.Helper()
	wants(b, fmt.Sprint("drop ", keep), id, b.tryDrop(id, keep), want)
}

func (b *both) settle(want int) {
	b.t.Helper()
	wants(b, "settle", 0, b.trySettle(), want)
}

// have wants those to be the Ids that have live curves.
func (b *both) have(want ...int) {
	b.t.Helper()
	if l := b.x.Ids(); !slices.Equal(l, want) {
		b.t.Fatalf("%v have curves, not %v", l, want)
	}
}

// haunt wants those to be the ghosts.
func (b *both) haunt(want ...api.Curve) {
	b.t.Helper()
	if l := b.x.Ghosts(); !slices.Equal(l, want) {
		b.t.Fatalf("the ghosts are %v, not %v", l, want)
	}
}

// copy are copies of both, which go on alone.
func (b *both) copy() *both {
	c := &both{t: b.t, x: b.x.Copy(), p: plain{b.p.rate, slices.Clone(b.p.live), slices.Clone(b.p.ghosts)}}
	holds(b.t, c.x, c.p)
	return c
}

// filled is a book of the rate 1000 with nothing to spare: 1 has a bent curve, 2 a sagging one, -3 a straight one; two ghosts came of 4 and of 1.
func filled(t *testing.T) *both {
	t.Helper()
	b := made(t, 1000)
	b.put(1, of(100, 5, 50), api.OK)
	b.put(4, straight(100), api.OK)
	b.put(2, of(100, 10, 600), api.OK)
	b.drop(4, true, true)
	b.swap(1, of(500, 10, 50), true, api.OK)
	b.put(-3, straight(200), api.OK)
	b.have(-3, 1, 2)
	b.haunt(straight(100), of(100, 5, 50))
	if c := straight(1); b.x.Fits(c) {
		t.Fatalf("%v is spare", c)
	}
	return b
}

func TestExample(t *testing.T) { // the chapter's own: P17.2, P17.3, P17.6
	b := made(t, 100)
	b.put(1, straight(60), api.OK)
	b.put(2, straight(40), api.OK)
	b.have(1, 2)
	b.put(3, straight(1), api.ErrAdmit)
	b.drop(2, true, true)
	b.haunt(straight(40))
	b.put(3, straight(1), api.ErrAdmit)
	b.settle(1)
	b.put(3, straight(1), api.OK)
	b.have(1, 3)
}

func TestNew(t *testing.T) { // P17.1
	for _, rate := range []uint64{1, 2, 3, 255, 256, 1000, 1<<16 + 1, api.MaxSlope - 1, api.MaxSlope} {
		b := made(t, rate)
		b.put(0, straight(rate), api.OK)
		b.put(1, of(1, 1, 0), api.ErrAdmit)
	}
	for _, rate := range []uint64{0, api.MaxSlope + 1, api.MaxSlope + 2, 1 << 21, 1 << 32, 1<<32 + 1, api.MaxTick, api.Cap, api.Never, top} {
		if x, e := New(rate); x != nil || e != 240 {
			t.Errorf("of %d: %v %d", rate, x, e)
		}
	}
}

func TestFits(t *testing.T) { // P17.1: in numbers
	x, _ := New(10)
	for i, c := range []struct {
		c  api.Curve
		is bool
	}{
		{api.Curve{}, true},
		{straight(10), true},
		{straight(11), false},
		{of(10, 1, 0), true},
		{of(11, 1, 0), false},
		{of(10, api.MaxTick, 9), true},
		{of(0, 9, 10), true},
		{of(0, 9, 11), false},
		{of(0, api.MaxTick, 11), false},
		{of(9, api.MaxTick, 10), true},
		{of(0, 0, api.MaxSlope), false},
		{of(1, 0, 1), false},
		{of(4, 4, 4), false},
		{of(0, api.MaxTick+1, 1), false},
	} {
		if is := x.Fits(c.c); is != c.is {
			t.Errorf("%d: %v", i, is)
		}
	}
	if l := x.Ids(); l != nil {
		t.Errorf("%v were noted", l)
	}
}

func TestBarred(t *testing.T) { // P17.1, P17.2: curves that may not be, in books with much room and with none
	for _, b := range []*both{made(t, 1), made(t, api.MaxSlope), filled(t)} {
		for _, c := range barred() {
			wants(b, "fits", 0, b.x.Fits(c), false)
			for _, id := range []int{1, 2, 9, -3} {
				b.put(id, c, 30)
				b.swap(id, c, true, 30)
				b.swap(id, c, false, 30)
			}
		}
	}
}

func TestNone(t *testing.T) { // P17.1, P17.2: a zero curve is always admitted, and nothing is noted of it
	for _, rate := range []uint64{1, api.MaxSlope} {
		b := made(t, rate)
		for range 2 {
			b.put(3, api.Curve{}, api.OK)
			b.swap(3, api.Curve{}, true, api.OK)
			b.swap(3, api.Curve{}, false, api.OK)
			b.drop(3, true, false)
			b.drop(3, false, false)
			b.have()
			b.haunt()
			b.put(1, straight(rate), api.OK) // nothing is left
			b.put(3, api.Curve{}, api.OK)
			b.swap(3, api.Curve{}, true, api.OK)
			b.put(1, api.Curve{}, api.ErrTwice)
			b.have(1)
			b.haunt()
			b.swap(1, api.Curve{}, true, api.OK) // what it was is a ghost
			b.have()
			b.haunt(straight(rate))
			b.put(1, api.Curve{}, api.OK)
			b.put(1, straight(1), api.ErrAdmit)
			b.settle(1)
			b.put(1, straight(rate), api.OK)
			b.swap(1, api.Curve{}, false, api.OK) // what it was is gone
			b.have()
			b.haunt()
		}
	}
}

func TestTwice(t *testing.T) { // P17.2
	b := made(t, 100)
	b.put(5, straight(10), api.OK)
	for _, c := range []api.Curve{straight(10), straight(1), of(1, 2, 3), {}} {
		b.put(5, c, 80)
	}
	b.swap(5, straight(20), false, api.OK)
	b.put(5, straight(10), 80)
	b.swap(6, straight(20), false, api.OK)
	b.put(6, straight(10), 80)
	b.drop(5, true, true)
	b.put(5, straight(10), api.OK)
	b.put(5, straight(10), 80)
	b.swap(5, api.Curve{}, true, api.OK)
	b.put(5, straight(10), api.OK)
	b.have(5, 6)
	b.haunt(straight(20), straight(10))
}

func TestOrder(t *testing.T) { // P17.2: which error is told where several hold, of all sets of them
	for faults := range 16 {
		has := func(bit int) bool { return faults>>bit&1 == 1 }
		b, id, c := filled(t), 9, straight(0)
		if has(3) {
			c = straight(1)
		}
		if has(2) {
			id = 1
		}
		if has(1) {
			c = of(3, 3, 3)
		}
		x := b.x
		want, swapped := api.OK, api.OK
		switch {
		case has(0):
			x, want, swapped = nil, 1, 1
		case has(1):
			want, swapped = 30, 30
		case has(2) && has(3):
			want, swapped = 80, 170
		case has(2):
			want = 80
		case has(3):
			want, swapped = 170, 170
		}
		if e := x.Put(id, c); e != want {
			t.Errorf("%04b: put: %d, not %d", faults, e, want)
		}
		same(t, b.x, b.p, id)
		if swapped != api.OK {
			if e := x.Swap(id, c, true); e != swapped {
				t.Errorf("%04b: swap: %d, not %d", faults, e, swapped)
			}
			same(t, b.x, b.p, id)
		}
	}
	for _, x := range []*Book{nil, {}} {
		for _, c := range []api.Curve{{}, straight(1), of(3, 3, 3)} {
			if e := x.Put(1, c); e != 1 {
				t.Errorf("put %v: %d", c, e)
			}
			if e := x.Swap(1, c, false); e != 1 {
				t.Errorf("swap %v: %d", c, e)
			}
		}
	}
}

func TestJust(t *testing.T) { // P17.2, P17.6: just the rate's at some tick, and one grain more
	for i, x := range []struct {
		rate uint64
		l    []api.Curve
		c    api.Curve
		is   bool
	}{
		{10, []api.Curve{straight(6)}, straight(4), true},
		{10, []api.Curve{straight(6)}, straight(5), false},
		{10, []api.Curve{of(6, 5, 1)}, of(4, 5, 9), true}, // the rate's at each tick
		{10, []api.Curve{of(6, 5, 1)}, of(5, 5, 8), false},
		{10, []api.Curve{of(6, 5, 1)}, of(4, 5, 10), false}, // from 6 on
		{10, []api.Curve{of(6, 5, 1)}, of(3, 5, 10), false}, // 5 ticks later
		{10, []api.Curve{of(6, 5, 1)}, of(4, 6, 9), true},
		{10, []api.Curve{of(6, 5, 1)}, of(0, 4, 20), false},            // at 5 30 and 20, at 6 31 and 40: 11 more
		{10, []api.Curve{of(6, 5, 1)}, of(0, 4, 9), true},              // never so much
		{10, []api.Curve{of(6, 5, 1), of(1, 8, 0)}, of(0, 4, 9), true}, // the sagging one runs after them
		{10, []api.Curve{of(0, 4, 8)}, of(10, 4, 2), true},
		{10, []api.Curve{of(0, 4, 8)}, of(10, 5, 2), false}, // at 5 8 and 50
		{10, []api.Curve{of(0, 4, 8)}, of(6, 8, 2), true},   // at 8 32 and 48: just 80
		{10, []api.Curve{of(0, 4, 8)}, of(6, 8, 3), false},
		{10, []api.Curve{of(0, 4, 8)}, of(6, 9, 2), false}, // at 9 40 and 54
		{10, []api.Curve{of(0, 4, 8)}, of(8, 8, 2), false},
		{10, []api.Curve{of(0, 4, 8), of(6, 8, 2)}, of(1, 1, 0), false}, // one grain more at 8
		{10, []api.Curve{of(0, 4, 8), of(6, 8, 2)}, of(0, 8, 1), false}, // and at 9
		{10, []api.Curve{of(0, 4, 8), of(6, 8, 1)}, of(0, 8, 1), true},
		{10, []api.Curve{of(0, 4, 8), of(5, 8, 1)}, of(4, 2, 0), true}, // just 80 at 8
		{10, []api.Curve{of(0, 4, 8), of(5, 8, 1)}, of(3, 3, 0), false},
		{10, []api.Curve{of(0, 4, 8), of(5, 8, 1)}, of(1, 8, 0), true},
		{10, []api.Curve{of(0, 4, 8), of(5, 8, 1)}, of(1, 9, 0), true}, // what the others leave behind
		{10, []api.Curve{of(0, 4, 8), of(5, 8, 1)}, of(0, 7, 1), true}, // the rests are the rate
		{10, []api.Curve{of(0, 4, 8), of(5, 8, 1)}, of(1, 9, 2), false},
		{10, []api.Curve{of(0, 4, 8), of(5, 8, 1)}, of(1, 10, 2), false},
		{10, []api.Curve{straight(4), of(2, 3, 1), of(1, 3, 2)}, of(3, 3, 2), true},
		{10, []api.Curve{straight(4), of(2, 3, 1), of(1, 3, 2)}, of(4, 3, 2), false},
		{10, []api.Curve{straight(4), of(2, 3, 1), of(1, 3, 2)}, of(3, 3, 4), false},
		{1, []api.Curve{of(0, api.MaxTick, 1)}, of(1, api.MaxTick, 0), true},
		{1, []api.Curve{of(0, api.MaxTick-1, 1)}, of(1, api.MaxTick, 0), false},
		{1, []api.Curve{of(0, api.MaxTick, 1)}, of(1, 1, 0), true},
		{1, []api.Curve{of(1, api.MaxTick, 0)}, of(0, 1, 1), false},
		{1, []api.Curve{straight(1)}, of(0, api.MaxTick, 1), false},
		{api.MaxSlope, []api.Curve{straight(api.MaxSlope)}, of(1, 1, 0), false},
		{api.MaxSlope, []api.Curve{straight(api.MaxSlope - 1)}, straight(1), true},
		{api.MaxSlope, []api.Curve{straight(api.MaxSlope - 1)}, straight(2), false},
		{api.MaxSlope, []api.Curve{of(0, api.MaxTick, api.MaxSlope)}, of(api.MaxSlope, api.MaxTick, 0), true},
		{api.MaxSlope, []api.Curve{of(0, api.MaxTick, api.MaxSlope), of(api.MaxSlope, api.MaxTick, 0)}, of(1, 1, 0), false},
	} {
		if is := curve.May(x.c) && kept(append(slices.Clone(x.l), x.c), x.rate); is != x.is {
			t.Errorf("%d: %v by the words", i, is)
			continue
		}
		b := made(t, x.rate)
		for id, c := range x.l {
			b.put(id, c, api.OK)
		}
		want := api.OK
		if !x.is {
			want = api.ErrAdmit
		}
		wants(b, "fits", i, b.x.Fits(x.c), x.is)
		b.copy().put(-1, x.c, want)
		b.copy().swap(-1, x.c, true, want)
		for id := range x.l { // a ghost counts as a live one
			b.drop(id, true, true)
			b.copy().put(-1, x.c, want)
			b.copy().swap(-1, x.c, false, want)
		}
	}
}

// small are curves whose sums, of a few of them, are late by few ticks, if at all.
func small() []api.Curve {
	var l []api.Curve
	for _, first := range []uint64{0, 1, 2, 5} {
		for _, length := range []uint64{0, 1, 3, 8} {
			for _, rest := range []uint64{0, 1, 2, 5} {
				if c := of(first, length, rest); curve.May(c) {
					l = append(l, c)
				}
			}
		}
	}
	return l
}

// early is whether those are late at one of the first ticks, one by one.
func early(l []api.Curve, rate uint64) bool {
	for t := range uint64(130) { // of three small ones that come to have more by their Rests it is at most 15 times 8
		sum := uint64(0)
		for _, c := range l {
			sum += c.First*min(t, c.Length) + c.Rest*(max(t, c.Length)-c.Length)
		}
		if sum > rate*t {
			return true
		}
	}
	return false
}

func TestJustIf(t *testing.T) { // P17.6: of all pairs of small curves, and some threes, by all rates, tick by tick
	r := rand.New(rand.NewSource(6))
	for _, one := range small() {
		for _, two := range small() {
			for rate := range uint64(16) {
				l := []api.Curve{one, two}
				if r.Intn(2) == 0 {
					l = append(l, small()[r.Intn(len(small()))])
				}
				b, _ := New(max(rate, 1))
				admitted := api.Errno(0)
				for id, c := range l {
					admitted = max(admitted, b.Put(id, c))
					if id == 0 && r.Intn(2) == 0 {
						b.Drop(id, true)
					}
				}
				if is := early(l, max(rate, 1)); is != (admitted == 170) || !is && admitted != 0 {
					t.Fatalf("%v by %d: late %v, but told %d", l, rate, is, admitted)
				}
			}
		}
	}
}

func TestAgain(t *testing.T) { // P17.6: what was dropped without a ghost can be put again, and with one, when the ghosts are settled
	r := rand.New(rand.NewSource(7))
	for game := range 60 {
		b := made(t, []uint64{1, 10, 1000, api.MaxSlope}[game%4])
		for id := range 12 {
			b.x.Put(id, mixed(r, b.x.Rate()))
			if r.Intn(5) == 0 {
				b.x.Drop(r.Intn(12), true)
			}
		}
		for _, id := range b.x.Ids() {
			c, _ := b.x.Live(id)
			for _, into := range []int{id, 99} {
				gone := b.x.Copy()
				if !gone.Drop(id, false) || !gone.Fits(c) || gone.Put(into, c) != api.OK {
					t.Fatalf("%v of %v: not again", c, told(b.x))
				}
				isKept(t, gone)
				ghost := b.x.Copy()
				ghost.Drop(id, true)
				before := kept(append(told(b.x), c), b.x.Rate())
				if ghost.Fits(c) != before {
					t.Fatalf("%v of %v: beside itself", c, told(b.x))
				}
				ghost.Settle()
				if e := ghost.Put(into, c); e != api.OK {
					t.Fatalf("%v of %v: not again: %d", c, told(b.x), e)
				}
				isKept(t, ghost)
			}
		}
	}
}

// below is whether the first curve has at most what the second one has, at each tick, by the words.
func below(a, b api.Curve) bool {
	for _, t := range []uint64{a.Length, b.Length, api.Never, top} {
		if has([]api.Curve{a}, t).Cmp(has([]api.Curve{b}, t)) > 0 {
			return false
		}
	}
	return true
}

func TestLess(t *testing.T) { // P17.7: a curve below an admitted one, and the same by a greater rate
	r := rand.New(rand.NewSource(8))
	lesser, greater := 0, 0
	for game := range 90 {
		rate := []uint64{1, 5, 9, 40, 1000, api.MaxSlope - 9}[game%6]
		x, _ := New(rate)
		for id := range r.Intn(5) {
			x.Put(id, mixed(r, rate))
			if r.Intn(3) == 0 {
				x.Drop(id, true)
			}
		}
		curves := small()
		for range 30 {
			curves = append(curves, mixed(r, rate))
		}
		for _, more := range []uint64{0, 1, 2, 9} {
			y, _ := New(rate + more)
			for id, c := range told(x) {
				if e := y.Put(id, c); e != api.OK {
					t.Fatalf("%v by %d: %d", told(x), rate+more, e)
				}
			}
			for _, c := range curves {
				if x.Fits(c) && !y.Fits(c) {
					t.Fatalf("%v: %v by %d, but not by %d", told(x), c, rate, rate+more)
				}
				if !x.Fits(c) && y.Fits(c) {
					greater++
				}
			}
		}
		for _, d := range curves {
			if !x.Fits(d) {
				continue
			}
			for _, c := range curves {
				if below(c, d) != sums.Below(c, d) {
					t.Fatalf("%v below %v", c, d)
				}
				if below(c, d) {
					lesser++
					if !x.Fits(c) {
						t.Fatalf("%v: %v fits, but not %v", told(x), d, c)
					}
				}
			}
		}
	}
	if lesser < 1000 || greater < 100 {
		t.Errorf("just %d and %d of them", lesser, greater)
	}
}

func TestFar(t *testing.T) { // P17.2, P17.6: late far behind the last corner alone
	for _, x := range []struct {
		rate, rest uint64
	}{{1, 1}, {100, 1}, {100, 100}, {api.MaxSlope, 1}, {api.MaxSlope, api.MaxSlope}} {
		b := made(t, x.rate)
		b.put(1, of(0, api.MaxTick, x.rate), api.OK)
		b.put(2, of(0, api.MaxTick, x.rest), api.ErrAdmit)
		b.swap(1, of(0, api.MaxTick, x.rest), true, api.ErrAdmit)
		b.swap(2, of(1, api.MaxTick, 0), true, api.OK)
		b.swap(1, of(0, api.MaxTick, x.rate), true, api.ErrAdmit)
		b.swap(1, of(0, api.MaxTick-1, x.rate), false, map[bool]api.Errno{true: api.ErrAdmit}[x.rate == 1])
	}
}

func TestSwap(t *testing.T) { // P17.2
	b := made(t, 100)
	b.swap(1, straight(60), true, api.OK) // one that has none
	b.swap(2, of(40, 3, 20), false, api.OK)
	b.haunt()
	b.swap(2, of(41, 3, 20), true, 170)
	b.swap(2, of(41, 3, 20), false, 170) // too much whatever goes
	b.swap(1, straight(50), true, 170)   // just as the old one stays
	b.swap(1, straight(50), false, api.OK)
	b.swap(1, straight(60), true, 170)
	b.swap(1, straight(60), false, api.OK) // just as the old one goes
	b.swap(3, of(1, 1, 0), true, 170)
	b.swap(3, of(0, 3, 20), false, api.OK)
	b.swap(3, of(0, 3, 20), true, 170) // itself beside it
	b.swap(3, of(0, 3, 20), false, api.OK)
	b.have(1, 2, 3)
	b.haunt()
	b.swap(3, api.Curve{}, true, api.OK)
	b.haunt(of(0, 3, 20))
	b.swap(2, of(40, 4, 20), false, 170) // the ghost counts
	b.swap(2, of(40, 2, 20), false, api.OK)
	b.settle(1)
	b.swap(2, straight(20), true, 170)
	b.swap(2, of(0, 3, 20), true, api.OK)
	b.swap(2, of(0, 1, 1), true, 170)
	b.swap(2, of(0, 3, 19), false, api.OK)
	b.have(1, 2)
	b.haunt(of(40, 2, 20))
	b.swap(1, straight(40), false, api.OK)
	b.swap(1, straight(20), true, api.OK)
	b.have(1, 2)
	b.haunt(of(40, 2, 20), straight(40))
}

func TestDrop(t *testing.T) { // P17.3
	b := made(t, 100)
	for _, keep := range []bool{true, false} {
		b.drop(1, keep, false)
		b.put(1, straight(30), api.OK)
		b.put(2, of(20, 5, 1), api.OK)
		b.drop(3, keep, false)
		b.drop(0, keep, false)
		b.drop(-1, keep, false)
		b.drop(1, keep, true)
		b.drop(1, keep, false)
		b.have(2)
		b.drop(2, keep, true)
		b.drop(2, keep, false)
		b.have()
		if keep {
			b.haunt(straight(30), of(20, 5, 1))
			b.settle(2)
		}
		b.haunt()
		b.settle(0)
	}
}

func TestSettle(t *testing.T) { // P17.3
	for many := range 6 {
		b := made(t, 100)
		b.settle(0)
		b.put(-1, straight(10), api.OK)
		b.settle(0)
		for i := range many {
			b.put(i, straight(uint64(1+i)), api.OK)
			b.drop(i, true, true)
		}
		b.settle(many)
		b.settle(0)
		b.haunt()
		b.have(-1)
	}
}

func TestGhosts(t *testing.T) { // P17.4: in the order in which they came, several of one Id among them
	b := made(t, 1000)
	var want []api.Curve
	for i, id := range []int{7, -2, 7, 7, 0, -2, 7, math.MaxInt, 0} {
		c := of(uint64(9-i), 2, 20)
		if i%2 == 0 {
			b.put(id, c, api.OK)
			b.drop(id, true, true)
		} else {
			b.put(id, c, api.OK)
			b.swap(id, straight(1), true, api.OK)
			b.drop(id, false, true)
		}
		want = append(want, c)
		b.haunt(want...)
	}
	b.put(7, want[0], api.OK)
	b.drop(7, true, true)
	b.haunt(append(want, want[0])...)
	b.have()
	b.settle(10)
}

func TestIds(t *testing.T) { // P17.4: negative, 0, and of the largest int
	b := made(t, 1000)
	var want []int
	for i, id := range edges() {
		b.put(id, straight(uint64(1+i)), api.OK)
		want = append(want, id)
		b.have(want...)
	}
	ids := edges()
	slices.Reverse(ids)
	for i, id := range ids {
		b.swap(id, of(uint64(i), 3, 40), i%2 == 0, api.OK)
		b.put(id, straight(1), 80)
		b.have(want...)
	}
	for i, id := range edges() {
		b.drop(id, i%3 == 0, true)
		b.have(want[i+1:]...)
	}
	b.settle(len(ids)/2 + (len(ids)+2)/3)
}

func TestOrders(t *testing.T) { // P17.4: in whatever order they come, the Ids are rising
	r := rand.New(rand.NewSource(17))
	for range 40 {
		b := made(t, 100)
		var want []int
		for _, at := range r.Perm(len(edges()))[:8] {
			b.put(edges()[at], of(1, 2, uint64(at)%5+2), api.OK)
			want = append(want, edges()[at])
			slices.Sort(want)
			b.have(want...)
		}
	}
}

func TestNobody(t *testing.T) { // P17.1 to P17.4: a nil book, and one that nobody made
	for _, make := range []func() *Book{func() *Book { return nil }, func() *Book { return new(Book) }} {
		x := make()
		for range 2 {
			if r := x.Rate(); r != 0 {
				t.Errorf("its rate is %d", r)
			}
			for _, c := range append(barred(), api.Curve{}, straight(1), of(3, 2, 1)) {
				if x.Fits(c) {
					t.Errorf("%v fits", c)
				}
				if e := x.Put(1, c); e != 1 {
					t.Errorf("put %v: %d", c, e)
				}
				for _, keep := range []bool{true, false} {
					if e := x.Swap(1, c, keep); e != 1 {
						t.Errorf("swap %v: %d", c, e)
					}
				}
			}
			for _, id := range edges() {
				if x.Drop(id, true) || x.Drop(id, false) {
					t.Errorf("%d was dropped", id)
				}
				if c, is := x.Live(id); is || c != (api.Curve{}) {
					t.Errorf("%d has %v %v", id, c, is)
				}
			}
			if n := x.Settle(); n != 0 {
				t.Errorf("%d settled", n)
			}
			if l := x.Ids(); l != nil {
				t.Errorf("ids %v", l)
			}
			if l := x.Ghosts(); l != nil {
				t.Errorf("ghosts %v", l)
			}
			if c := x.Copy(); c != nil {
				t.Errorf("copy %v", c)
			}
		}
	}
}

func TestRows(t *testing.T) { // P17.4: what was told is the caller's own
	b := filled(t)
	spoil := func(x *Book) {
		ids, ghosts := x.Ids(), x.Ghosts()
		for i := range ids {
			ids[i] = 77
		}
		for i := range ghosts {
			ghosts[i] = straight(api.MaxSlope)
		}
		_, _ = append(ids[:0], 5, 6, 7), append(ghosts[:1], of(1, 2, 3), of(1, 2, 3))
	}
	spoil(b.x)
	holds(t, b.x, b.p)
	one, other := b.x.Ghosts(), b.x.Ghosts()
	one[0] = api.Curve{}
	if other[0] != straight(100) {
		t.Errorf("two answers share")
	}
	grown := append(b.x.Ghosts(), straight(9))
	b.drop(1, true, true)
	if grown[2] != straight(9) {
		t.Errorf("what was told is altered")
	}
	early := b.x.Ghosts()
	b.drop(2, true, true)
	_ = append(early, straight(9))
	holds(t, b.x, b.p)
	spoil(b.x)
	b.settle(4)
}

func TestCopy(t *testing.T) { // P17.4: a copy goes on alone, and the book beside it
	a := filled(t)
	c := a.copy()
	steps := func(b *both, sign int) {
		b.drop(1, true, true)
		b.swap(2, of(uint64(100-sign), 10, 600), false, api.OK)
		b.swap(-3, straight(uint64(200-sign)), false, api.OK)
		b.put(50+sign, straight(3), 170)
		b.settle(3)
		b.put(50+sign, straight(uint64(30+sign)), api.OK)
		b.drop(50+sign, true, true)
	}
	for i, first := range []*both{a, c} {
		second := []*both{c, a}[i]
		before := second.x.Ghosts()
		for sign := range 2 {
			d := first.copy()
			steps(d, sign)
			holds(t, first.x, first.p)
			holds(t, second.x, second.p)
			if !slices.Equal(second.x.Ghosts(), before) {
				t.Errorf("the ghosts are others")
			}
			e := d.copy()
			d.settle(1)
			d.drop(2, false, true)
			holds(t, e.x, e.p)
			e.drop(2, true, true)
			e.drop(-3, true, true)
			holds(t, d.x, d.p)
		}
	}
	steps(c, 0)
	holds(t, a.x, a.p)
	steps(a, 1)
	holds(t, c.x, c.p)
	if made(t, 5).copy().x.Rate() != 5 {
		t.Errorf("the rate is another one")
	}
}

func TestCopyGhosts(t *testing.T) { // P17.4: ghosts that come to both aren't each other's
	for many := range 9 {
		a := made(t, 1000)
		for i := range many + 2 {
			a.put(i, of(2, 3, uint64(i)+3), api.OK)
		}
		for i := range many {
			a.drop(i, true, true)
		}
		c := a.copy()
		a.drop(many, true, true)
		c.drop(many+1, true, true)
		holds(t, a.x, a.p)
		holds(t, c.x, c.p)
	}
}

// mixed is a curve that may be, often small, of which few fill that rate.
func mixed(r *rand.Rand, rate uint64) api.Curve {
	part := func() uint64 { return uint64(r.Intn(int(rate)/(1+r.Intn(6)) + 2)) }
	length := []uint64{1, 2, 3, 5, 8, 20, 1000, api.MaxTick - 1, api.MaxTick, uint64(r.Intn(40) + 1)}[r.Intn(10)]
	for {
		c := straight(part())
		if r.Intn(4) > 0 {
			c = of(part(), length, part())
		}
		if curve.May(c) {
			return c
		}
	}
}

func TestPlay(t *testing.T) { // P17.1 to P17.5: whatever is put, swapped, dropped and settled
	r := rand.New(rand.NewSource(5))
	times := map[string]int{}
	for game := range 60 {
		rate := []uint64{1, 2, 7, 100, 1000, api.MaxSlope}[game%6]
		b := made(t, rate)
		for range 120 {
			id, keep := r.Intn(12)-3, r.Intn(2) == 0
			c := mixed(r, rate)
			if n := spare(b.p.all(), rate); n > 0 && r.Intn(4) == 0 {
				c = straight(n)
			}
			if r.Intn(12) == 0 {
				c = barred()[r.Intn(len(barred()))]
			}
			_, is := b.p.get(id)
			switch n := r.Intn(20); {
			case n < 8:
				times[fmt.Sprintf("put %v %d", is, b.tryPut(id, c))]++
			case n < 15:
				times[fmt.Sprintf("swap %v %v %d", is, keep, b.trySwap(id, c, keep))]++
			case n < 18:
				times[fmt.Sprintf("drop %v %v", b.tryDrop(id, keep), keep)]++
			case n < 19:
				times[fmt.Sprintf("settle %d", min(b.trySettle(), 3))]++
			default:
				old := b
				b = b.copy()
				old.tryDrop(id, keep)
				old.trySettle()
			}
		}
	}
	for _, what := range []string{"put false 0", "put false 30", "put false 170", "put true 80", "put true 30", "swap false true 0", "swap false false 0", "swap false true 170", "swap false false 170", "swap true true 0", "swap true false 0", "swap true true 170", "swap true false 170", "swap true true 30", "drop true true", "drop true false", "drop false true", "drop false false", "settle 0", "settle 1", "settle 2", "settle 3"} {
		if times[what] == 0 {
			t.Errorf("never: %s", what)
		}
	}
}
