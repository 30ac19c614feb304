package real

import (
	"fmt"
	"math"
	"math/bits"
	"math/rand"
	"reflect"
	"slices"
	"testing"

	"distributary/api"
)

const top = 1<<64 - 1

func of(first, length, rest uint64) api.Curve {
	return api.Curve{First: first, Length: length, Rest: rest}
}

func straight(slope uint64) api.Curve { return of(0, 0, slope) }

// written is DOC.md's 'It may be', word by word.
func written(c api.Curve) bool {
	if c.First > api.MaxSlope || c.Rest > api.MaxSlope || c.Length > api.MaxTick {
		return false
	}
	if c.Length == 0 {
		return c.First == 0
	}
	return c.First != c.Rest
}

// grid is each curve of such slopes and lengths, may it be or not.
func grid(slopes, lengths []uint64) []api.Curve {
	var l []api.Curve
	for _, first := range slopes {
		for _, length := range lengths {
			for _, rest := range slopes {
				l = append(l, of(first, length, rest))
			}
		}
	}
	return l
}

// those are the curves of the list that may be.
func those(l []api.Curve) []api.Curve {
	return slices.DeleteFunc(l, func(c api.Curve) bool { return !written(c) })
}

// small are curves of both kinds by which heads of a few bytes are due within some ticks; straight ones and none are among them.
func small() []api.Curve {
	return those(grid([]uint64{0, 100, 256, 700}, []uint64{0, 1, 5, 12}))
}

// wild are curves of both kinds at all limits.
func wild() []api.Curve {
	return those(grid([]uint64{0, 1, 300, api.MaxSlope - 1, api.MaxSlope}, []uint64{0, 1, 10, api.MaxTick - 1, api.MaxTick}))
}

// big is a number of 128 bits: nothing here has more, so that nothing stops.
type big struct{ high, low uint64 }

func product(a, b uint64) big {
	high, low := bits.Mul64(a, b)
	return big{high, low}
}

func (a big) plus(b big) big {
	low, more := bits.Add64(a.low, b.low, 0)
	high, _ := bits.Add64(a.high, b.high, more)
	return big{high, low}
}

func (a big) minus(b big) big {
	low, gone := bits.Sub64(a.low, b.low, 0)
	high, _ := bits.Sub64(a.high, b.high, gone)
	return big{high, low}
}

func (a big) less(b big) bool {
	return a.high < b.high || a.high == b.high && a.low < b.low
}

// stopped is a, or Cap if a is more.
func (a big) stopped() uint64 {
	if (big{0, api.Cap}).less(a) {
		return api.Cap
	}
	return a.low
}

// has is what a curve has at so many ticks.
func has(c api.Curve, ticks uint64) big {
	if ticks <= c.Length {
		return product(c.First, ticks)
	}
	return product(c.First, c.Length).plus(product(c.Rest, ticks-c.Length))
}

// more are so many grains, and those of a head of that length, by the chapter's words.
func more(grains uint64, length int) uint64 {
	counts := length
	if length < 0 {
		counts = 0
	}
	if length > 65536 {
		counts = 65536
	}
	return product(256, uint64(counts)).plus(big{0, grains}).stopped()
}

// begun is where a copy starts, and from what on.
type begun struct{ x, y uint64 }

// plain is a debt told by the words of the chapter and of DOC.md's 'Owed, once', with all copies there ever were, in big numbers.
type plain struct {
	c             api.Curve
	copies        []begun
	got           uint64
	awake         bool
	eligible, due uint64
}

func (p *plain) last() uint64 {
	if len(p.copies) == 0 {
		return 0
	}
	return p.copies[len(p.copies)-1].x
}

// least is what all copies have at t at least, which isn't ahead of the last start.
func (p *plain) least(t uint64) big {
	least := big{top, top}
	for _, k := range p.copies {
		if n := (big{0, k.y}).plus(has(p.c, t-k.x)); n.less(least) {
			least = n
		}
	}
	return least
}

// d is what D has at t.
func (p *plain) d(t uint64) uint64 {
	if len(p.copies) == 0 {
		return 0
	}
	return p.least(max(t, p.last())).stopped()
}

// e is what E has at t, from the last start on, up to Never.
func (p *plain) e(t uint64) uint64 {
	if p.c.First > p.c.Rest {
		return p.d(t)
	}
	return p.least(t + p.c.Length).minus(product(p.c.First, p.c.Length)).stopped()
}

// first is the first tick below Never, from the last start on, at which y is there at least, else Never: by halving what is left, as nothing falls.
func (p *plain) first(y uint64, at func(t uint64) uint64) uint64 {
	low, high := p.last(), uint64(api.Never)
	for low < high {
		if t := low + (high-low)/2; at(t) >= y {
			high = t
		} else {
			low = t + 1
		}
	}
	return low
}

func (p *plain) wake(now uint64, length int) {
	if p.awake {
		return
	}
	p.copies = append(p.copies, begun{max(min(now, api.Never), p.last()), p.got})
	p.awake = true
	p.eligible = p.first(p.got, p.e)
	p.due = p.first(more(p.got, length), p.d)
}

func (p *plain) serve(rule uint8, length, next int) {
	if !p.awake {
		return
	}
	if rule == 1 {
		p.got = more(p.got, length)
		p.eligible = p.first(p.got, p.e)
	}
	if next < 1 {
		p.awake, p.eligible, p.due = false, api.Never, api.Never
		return
	}
	p.due = p.first(more(p.got, next), p.d)
}

// ticks are those at which something turns on what D has.
func (p *plain) ticks() []uint64 {
	l := []uint64{0, 1, 10, api.MaxTick, api.MaxTick + 1, api.Cap, api.Never - 1, api.Never, top, p.eligible, p.due}
	for _, k := range p.copies[max(len(p.copies)-4, 0):] {
		l = append(l, k.x, k.x+1, k.x+p.c.Length, k.x+p.c.Length+1)
	}
	return append(l, p.last()-min(p.last(), 1), p.last()+7, p.due+1)
}

// both are a debt and a plain one, of which each step is held against the other.
type both struct {
	t *testing.T
	d *Debt
	p *plain
}

// made are both, of that curve.
func made(t *testing.T, c api.Curve) *both {
	t.Helper()
	d := New(c)
	if d == nil {
		t.Fatalf("%v: none", c)
	}
	b := &both{t, d, &plain{c: c, eligible: api.Never, due: api.Never}}
	b.holds("new")
	return b
}

// at are both, of that curve, that got so much already: it would take too many packets to get there.
func at(t *testing.T, c api.Curve, got uint64) *both {
	t.Helper()
	b := made(t, c)
	b.d.own.got, b.p.got = got, got
	b.holds("got")
	return b
}

// holds checks that the debt tells what the plain one has.
func (b *both) holds(what string) {
	b.t.Helper()
	d, p := b.d, b.p
	if d.Awake() != p.awake || d.Got() != p.got {
		b.t.Fatalf("%s: awake: %v, got %d, not %v", what, d.Awake(), d.Got(), p)
	}
	if d.Eligible() != p.eligible || d.Due() != p.due {
		b.t.Fatalf("%s: eligible at %d, due at %d, not %v", what, d.Eligible(), d.Due(), p)
	}
	for _, n := range p.ticks() {
		if d.Owes(n) != p.d(n) {
			b.t.Fatalf("%s: it owes %d at %d, not %d: %v", what, d.Owes(n), n, p.d(n), p)
		}
	}
}

func (b *both) wake(now uint64, length int) {
	b.t.Helper()
	b.d.Wake(now, length)
	b.p.wake(now, length)
	b.holds(fmt.Sprint("wake ", now, length))
}

func (b *both) serve(rule uint8, length, next int) {
	b.t.Helper()
	b.d.Serve(rule, length, next)
	b.p.serve(rule, length, next)
	b.holds(fmt.Sprint("serve ", rule, length, next))
}

// copy are copies of both, which go on alone.
func (b *both) copy() *both {
	b.t.Helper()
	p := *b.p
	p.copies = slices.Clone(p.copies)
	c := &both{b.t, b.d.Copy(), &p}
	if c.d == nil || c.d == b.d {
		b.t.Fatalf("%v: no copy", b.p)
	}
	c.holds("copy")
	return c
}

// is wants the debt to be awake, with those ticks, and to have got so many bytes.
func (b *both) is(eligible, due, got uint64) {
	b.t.Helper()
	d := b.d
	if !d.Awake() || d.Eligible() != eligible || d.Due() != due || d.Got() != 256*got {
		b.t.Fatalf("%v, eligible at %d, due at %d, got %d; not %d, %d, %d bytes", d.Awake(), d.Eligible(), d.Due(), d.Got(), eligible, due, got)
	}
}

// sleeps wants the debt to sleep, and to have got so many bytes.
func (b *both) sleeps(got uint64) {
	b.t.Helper()
	d := b.d
	if d.Awake() || d.Eligible() != api.Never || d.Due() != api.Never || d.Got() != 256*got {
		b.t.Fatalf("%v, eligible at %d, due at %d, got %d; not asleep, %d bytes", d.Awake(), d.Eligible(), d.Due(), d.Got(), got)
	}
}

// owes wants the debt to owe so many grains at each of those ticks.
func (b *both) owes(grains uint64, ticks ...uint64) {
	b.t.Helper()
	for _, n := range ticks {
		if has := b.d.Owes(n); has != grains {
			b.t.Fatalf("it owes %d at %d, not %d", has, n, grains)
		}
	}
}

func TestExample(t *testing.T) { // the chapter's own: P18.1, P18.2, P18.3
	b := made(t, straight(256))
	b.sleeps(0)
	b.wake(10, 5)
	b.is(10, 15, 0)
	b.serve(api.RlReal, 5, 3)
	b.is(15, 18, 5)
}

func TestPacketsOfAHundredBytes(t *testing.T) { // P18.2, P18.3: DOC.md's second example
	b := made(t, straight(256))
	b.wake(1000, 100)
	for k := range uint64(50) {
		b.is(1000+100*k, 1000+100*(k+1), 100*k)
		b.serve(api.RlReal, 100, 100)
	}
}

func TestNew(t *testing.T) { // P18.1
	many := 0
	edges := []uint64{0, 1, 2, 256, api.MaxSlope - 1, api.MaxSlope, api.MaxSlope + 1, api.MaxTick, api.MaxTick + 1, api.Cap, api.Never, top}
	for _, c := range grid(edges, edges) {
		if d := New(c); (d != nil) != written(c) {
			t.Errorf("%v: %v", c, d)
		}
		if written(c) {
			b := made(t, c)
			b.sleeps(0)
			b.owes(0, 0, 1, c.Length, api.MaxTick, api.Never, top)
			many++
		}
	}
	if many < 100 {
		t.Errorf("%d curves only", many)
	}
	for _, c := range []api.Curve{of(1, 0, 0), of(3, 3, 3), of(0, 1, 0), straight(api.MaxSlope + 1), of(1, api.MaxTick+1, 0)} {
		if d := New(c); d != nil {
			t.Errorf("%v: %v", c, d)
		}
	}
}

func TestOfNoCurve(t *testing.T) { // P18.2, P18.3: it was made, though nothing is owed
	b := made(t, api.Curve{})
	b.wake(7, 1)
	b.is(7, api.Never, 0)
	b.serve(api.RlShare, 1, 5)
	b.is(7, api.Never, 0)
	b.serve(api.RlReal, 5, 2) // as someone does who doesn't ask whether it is due
	b.is(api.Never, api.Never, 5)
	b.serve(api.RlReal, 2, 0)
	b.sleeps(7)
	b.owes(0, 0, 7, 8, api.Never, top)
	b.wake(9, 0)
	b.is(api.Never, api.Never, 7)
	b.serve(api.RlShare, 0, -1)
	b.sleeps(7)

	b = made(t, api.Curve{})
	b.wake(3, 0) // what it got is there, and its head has nothing
	b.is(3, 3, 0)
	b.serve(api.RlShare, 0, 0)
	b.wake(5, -1)
	b.is(5, 5, 0)
}

func TestByRealAlone(t *testing.T) { // P18.2, P18.3
	for i, x := range []struct {
		c    api.Curve
		want [][2]uint64 // the ticks of each of the heads of 10 bytes, woken at 100
	}{
		{straight(256), [][2]uint64{{100, 110}, {110, 120}, {120, 130}, {130, 140}}},
		{straight(100), [][2]uint64{{100, 126}, {126, 152}, {152, 177}, {177, 203}}},
		{of(1024, 5, 256), [][2]uint64{{100, 103}, {103, 105}, {105, 115}, {115, 125}}},
		{of(1024, 5, 0), [][2]uint64{{100, 103}, {103, 105}, {105, api.Never}, {api.Never, api.Never}}},
		{of(256, 5, 1024), [][2]uint64{{100, 107}, {103, 109}, {105, 112}, {108, 114}}},
		{of(0, 20, 512), [][2]uint64{{100, 125}, {105, 130}, {110, 135}, {115, 140}}},
		{of(0, 20, 2560), [][2]uint64{{100, 121}, {101, 122}, {102, 123}, {103, 124}}},
		{of(256, api.MaxTick, 2560), [][2]uint64{{100, 110}, {101, 120}, {102, 130}, {103, 140}}},
	} {
		b := made(t, x.c)
		b.wake(100, 10)
		for k, w := range x.want {
			if b.d.Eligible() != w[0] || b.d.Due() != w[1] {
				t.Errorf("%d: the head %d: %d %d, not %v", i, k, b.d.Eligible(), b.d.Due(), w)
			}
			b.serve(api.RlReal, 10, 10)
		}
	}
}

func TestBySharesAlone(t *testing.T) { // P18.2, P18.7
	for _, c := range append(small(), wild()...) {
		b := made(t, c)
		b.wake(100, 10)
		eligible, due := b.d.Eligible(), b.d.Due()
		for _, next := range []int{10, 3, 200, 1, 70000, 10} {
			b.serve(api.RlShare, 65536, next)
			if b.d.Eligible() != eligible || b.d.Got() != 0 {
				t.Fatalf("%v: eligible at %d, got %d", c, b.d.Eligible(), b.d.Got())
			}
		}
		if b.d.Due() != due {
			t.Fatalf("%v: due at %d, not %d", c, b.d.Due(), due)
		}
		b.serve(api.RlShare, 10, 0)
		b.sleeps(0)
	}
}

func TestByBothInTurn(t *testing.T) { // P18.2, P18.3, P18.7
	b := made(t, straight(512))
	b.wake(50, 8)
	b.is(50, 54, 0)
	b.serve(api.RlShare, 8, 20) // the deadline is the next head's, the eligible tick is left
	b.is(50, 60, 0)
	b.serve(api.RlReal, 20, 4)
	b.is(60, 62, 20)
	b.serve(api.RlShare, 4, 2)
	b.is(60, 61, 20)
	b.serve(api.RlShare, 2, 100)
	b.is(60, 110, 20)
	b.serve(api.RlReal, 100, 1)
	b.is(110, 111, 120)
	b.serve(api.RlShare, 1, 0)
	b.sleeps(120)
	b.wake(80, 6) // D has but 60 bytes there
	b.is(110, 113, 120)

	b = made(t, of(1024, 10, 256)) // bent: 40 bytes in 10 ticks, then one each
	b.wake(0, 20)
	b.is(0, 5, 0)
	b.serve(api.RlShare, 20, 30)
	b.is(0, 8, 0)
	b.serve(api.RlReal, 30, 20)
	b.is(8, 20, 30)
	b.serve(api.RlShare, 20, 10)
	b.is(8, 10, 30)
	b.serve(api.RlReal, 10, 1)
	b.is(10, 11, 40)

	b = made(t, of(0, 10, 512)) // sagging: nothing in 10 ticks, then two bytes each
	b.wake(0, 20)
	b.is(0, 20, 0)
	b.serve(api.RlShare, 20, 30)
	b.is(0, 25, 0)
	b.serve(api.RlReal, 30, 20)
	b.is(15, 35, 30)
	b.serve(api.RlShare, 20, 10)
	b.is(15, 30, 30)
	b.serve(api.RlReal, 10, 1)
	b.is(20, 31, 40)
}

func TestAsleepAndAwakeAgain(t *testing.T) { // P18.2: in numbers
	b := made(t, of(1024, 10, 256)) // bent
	b.wake(0, 40)
	b.is(0, 10, 0)
	b.serve(api.RlReal, 40, 0)
	b.sleeps(40)
	b.owes(256*40, 10)
	b.wake(12, 8) // it has 42 bytes there: of its steep stretch only 2 are left, as D was never less steep than that
	b.is(12, 18, 40)
	b.owes(256*40, 0, 11, 12)
	b.owes(256*44, 14)
	b.owes(256*48, 18)
	b.serve(api.RlReal, 8, 0)
	b.wake(100, 40) // it slept so long that all of it is there again
	b.is(100, 110, 48)
	b.serve(api.RlReal, 40, 0)
	b.wake(105, 40) // ahead of what it got already
	b.is(110, 150, 88)
	b.serve(api.RlShare, 40, 0) // by shares alone it got nothing that counts
	b.wake(200, 40)
	b.is(200, 210, 88)

	b = made(t, of(0, 10, 512)) // sagging
	b.wake(0, 4)
	b.is(0, 12, 0)
	b.serve(api.RlReal, 4, 4)
	b.is(2, 14, 4)
	b.serve(api.RlReal, 4, 0)
	b.sleeps(8)
	b.wake(5, 2) // D had 10 bytes at 15: now a new copy has 8 there
	b.is(5, 16, 8)
	b.owes(256*8, 14, 15)
	b.owes(256*10, 16)
	b.serve(api.RlShare, 2, 0)
	b.wake(5, 1)
	b.is(5, 16, 8)
	b.serve(api.RlReal, 1, 60)
	b.is(6, 46, 9)

	b = made(t, straight(256))
	b.wake(0, 10)
	b.serve(api.RlReal, 10, 10)
	b.serve(api.RlReal, 10, 0) // sent ahead of its eligible tick
	b.wake(3, 1)
	b.is(20, 21, 20)
	b.serve(api.RlReal, 1, 0)
	b.wake(21, 1)
	b.is(21, 22, 21)
	b.serve(api.RlReal, 1, 0)
	b.wake(50, 1) // what it didn't ask for meanwhile is gone
	b.is(50, 51, 22)
}

func TestManyTimes(t *testing.T) { // P18.2
	chance := rand.New(rand.NewSource(3))
	for _, c := range append(small(), wild()...) {
		b := made(t, c)
		now := uint64(0)
		for range 60 {
			b.wake(now, 1+chance.Intn(20))
			for chance.Intn(3) > 0 {
				b.serve(uint8(1+chance.Intn(2)), 1+chance.Intn(20), 1+chance.Intn(20))
			}
			b.serve(uint8(1+chance.Intn(2)), 1+chance.Intn(20), 0)
			b.sleeps(b.p.got / 256)
			now += uint64(chance.Intn(40))
		}
	}
}

// TestVeryManyTimes: a debt that wakes up again and again at the tick at which it first did is as one that never falls asleep.
func TestVeryManyTimes(t *testing.T) { // P18.2
	for _, c := range []api.Curve{straight(256), of(512, 10, 256), of(0, 10, 256), of(100, 7, 256), of(256, 5, 0), {}} {
		d, always := New(c), New(c)
		d.Wake(5, 3)
		always.Wake(5, 3)
		for k := range uint64(20000) {
			if d.Eligible() != always.Eligible() || d.Due() != always.Due() || d.Got() != 256*3*k {
				t.Fatalf("%v: %d: eligible at %d, due at %d, not %d, %d", c, k, d.Eligible(), d.Due(), always.Eligible(), always.Due())
			}
			d.Serve(api.RlReal, 3, 0)
			d.Wake(5, 3)
			always.Serve(api.RlReal, 3, 3)
		}
	}
}

// lengths are those of heads at all edges.
func lengths() []int {
	return []int{math.MinInt, math.MinInt + 1, -1 << 32, -65537, -65536, -256, -2, -1, 0, 1, 2, 255, 256, 65535, 65536, 65537, 65538, 1 << 24, 1 << 32, 1<<32 + 1, 1 << 55, 1 << 56, math.MaxInt - 1, math.MaxInt}
}

func TestLengths(t *testing.T) { // P18.2, P18.3
	for _, c := range append(small(), wild()...) {
		for _, length := range lengths() {
			for _, rule := range []uint8{api.RlReal, api.RlShare} {
				b := made(t, c)
				b.wake(9, length)
				b.serve(rule, 4, 4)
				b = made(t, c)
				b.wake(9, 4)
				b.serve(rule, length, 4)
				b = made(t, c)
				b.wake(9, 4)
				b.serve(rule, 4, length)
				b.serve(rule, length, length)
				b.wake(9, length)
			}
		}
	}
}

func TestLengthsInNumbers(t *testing.T) { // P18.2, P18.3
	for _, length := range lengths() {
		counts := uint64(min(max(length, 0), 65536))
		b := made(t, straight(256))
		b.wake(9, length)
		b.is(9, 9+counts, 0)
		b.serve(api.RlReal, length, 7)
		b.is(9+counts, 9+counts+7, counts)
		b.serve(api.RlShare, length, 7)
		b.is(9+counts, 9+counts+7, counts)
		b.serve(api.RlShare, 7, length)
		if length < 1 {
			b.sleeps(counts)
			continue
		}
		b.is(9+counts, 9+2*counts, counts)
		b.serve(api.RlReal, 0, length)
		b.is(9+counts, 9+2*counts, counts)
	}
}

func TestNextBelowOne(t *testing.T) { // P18.2
	for _, next := range lengths() {
		for _, rule := range []uint8{api.RlReal, api.RlShare} {
			b := made(t, straight(256))
			b.wake(20, 6)
			b.serve(rule, 6, next)
			got := uint64(0)
			if rule == api.RlReal {
				got = 6
			}
			if next < 1 {
				b.sleeps(got)
				b.owes(0, 20)
				b.owes(256*6, 26) // what D has stays
				continue
			}
			b.is(20+got, 20+got+uint64(min(next, 65536)), got)
		}
	}
}

// unchanged checks that the debt is as it was, when that was done to it.
func (b *both) unchanged(what string, do func(d *Debt)) {
	b.t.Helper()
	was := b.d.Copy()
	do(b.d)
	if !reflect.DeepEqual(b.d, was) {
		b.t.Fatalf("%s: %v, not %v", what, b.d, was)
	}
	b.holds(what)
}

func TestWakingWhatIsAwake(t *testing.T) { // P18.2
	for _, c := range append(small(), wild()...) {
		b := made(t, c)
		for _, got := range []int{0, 5, 70} {
			b.wake(40, 10)
			b.serve(api.RlReal, got, 10)
			for _, now := range []uint64{0, 39, 40, 41, 1000, api.MaxTick, api.Never, top} {
				for _, length := range lengths() {
					b.unchanged("awake", func(d *Debt) { d.Wake(now, length) })
				}
			}
			b.serve(api.RlReal, 10, 0)
		}
	}
}

func TestServingWhatSleeps(t *testing.T) { // P18.2
	for _, c := range append(small(), wild()...) {
		b := made(t, c)
		for range 3 {
			for _, rule := range []uint8{0, api.RlReal, api.RlShare, 3, 255} {
				for _, next := range []int{-1, 0, 1, 70} {
					b.unchanged("asleep", func(d *Debt) { d.Serve(rule, 10, next) })
				}
			}
			b.wake(40, 10)
			b.serve(api.RlReal, 10, 0)
		}
	}
}

func TestRules(t *testing.T) { // P18.2: each that isn't RlReal is the other one
	for _, c := range append(small(), wild()...) {
		for rule := range 256 {
			for _, next := range []int{0, 7} {
				b := made(t, c)
				b.wake(30, 10)
				b.serve(api.RlReal, 10, 10)
				share := b.copy()
				b.serve(uint8(rule), 10, next)
				if uint8(rule) == api.RlReal {
					continue
				}
				share.serve(api.RlShare, 10, next)
				if !reflect.DeepEqual(b.d, share.d) || b.d.Got() != 2560 {
					t.Fatalf("%v by the rule %d: %v, not %v", c, rule, b.d, share.d)
				}
			}
		}
	}
}

// far are ticks at all edges, rising.
func far() []uint64 {
	return []uint64{0, 1, 2, 99, 1 << 20, api.MaxTick - 1, api.MaxTick, api.MaxTick + 1, 1 << 50, api.Cap - 1, api.Cap, api.Cap + 1, api.Never - 30, api.Never - 1, api.Never, api.Never + 1, top - 1, top}
}

func TestTicks(t *testing.T) { // P18.2, P18.3, P18.4: each tick ahead of each other one, and behind it
	for _, c := range append(small(), wild()...) {
		for _, now := range far() {
			for _, again := range far() {
				b := made(t, c)
				b.wake(now, 5)
				b.serve(api.RlReal, 5, 2)
				b.serve(api.RlShare, 5, 0)
				b.wake(again, 9)
				b.serve(api.RlReal, 9, 1)
			}
		}
	}
}

func TestTicksInNumbers(t *testing.T) { // P18.2, P18.3
	for i, x := range []struct {
		c             api.Curve
		now           uint64
		eligible, due uint64 // of the head it wakes up with, of 4 bytes
		next, later   uint64 // of the second one
	}{
		{straight(256), 0, 0, 4, 4, 8},
		{straight(256), api.MaxTick, api.MaxTick, api.MaxTick + 4, api.MaxTick + 4, api.MaxTick + 8},
		{straight(256), api.MaxTick + 1, api.MaxTick + 1, api.MaxTick + 5, api.MaxTick + 5, api.MaxTick + 9},
		{straight(256), api.Cap, api.Cap, api.Cap + 4, api.Cap + 4, api.Cap + 8},
		{straight(256), api.Never - 9, api.Never - 9, api.Never - 5, api.Never - 5, api.Never - 1},
		{straight(256), api.Never - 8, api.Never - 8, api.Never - 4, api.Never - 4, api.Never},
		{straight(256), api.Never - 4, api.Never - 4, api.Never, api.Never, api.Never},
		{straight(256), api.Never - 1, api.Never - 1, api.Never, api.Never, api.Never},
		{straight(256), api.Never, api.Never, api.Never, api.Never, api.Never},
		{straight(256), api.Never + 1, api.Never, api.Never, api.Never, api.Never},
		{straight(256), top, api.Never, api.Never, api.Never, api.Never},
		{of(1024, 2, 256), api.Never - 4, api.Never - 4, api.Never - 3, api.Never - 3, api.Never - 2},
		{of(1024, 2, 256), top, api.Never, api.Never, api.Never, api.Never},
		{of(0, 3, 512), api.Never - 8, api.Never - 8, api.Never - 3, api.Never - 6, api.Never - 1},
		{of(0, 3, 512), api.Never - 4, api.Never - 4, api.Never, api.Never - 2, api.Never},
		{of(0, 3, 512), api.Never, api.Never, api.Never, api.Never, api.Never},
	} {
		b := made(t, x.c)
		b.wake(x.now, 4)
		if !b.d.Awake() || b.d.Eligible() != x.eligible || b.d.Due() != x.due {
			t.Errorf("%d: %d %d", i, b.d.Eligible(), b.d.Due())
		}
		b.serve(api.RlReal, 4, 4)
		if !b.d.Awake() || b.d.Eligible() != x.next || b.d.Due() != x.later {
			t.Errorf("%d: then %d %d", i, b.d.Eligible(), b.d.Due())
		}
	}
}

func TestWokenAheadOfAnEarlierTick(t *testing.T) { // P18.2: as at that one
	for _, c := range append(small(), wild()...) {
		for _, got := range []int{0, 3, 500} {
			b := made(t, c)
			b.wake(100, 10)
			b.serve(api.RlReal, got, 0)
			at := b.copy()
			at.wake(100, 10)
			for _, now := range []uint64{0, 1, 50, 99} {
				ahead := b.copy()
				ahead.wake(now, 10)
				if !reflect.DeepEqual(ahead.d, at.d) {
					t.Fatalf("%v: at %d %v, not %v", c, now, ahead.d, at.d)
				}
			}
		}
	}
}

func TestWhatItGotStops(t *testing.T) { // P18.2, P18.3
	b := at(t, straight(256), api.Cap-1024)
	b.wake(70, 4)
	if b.d.Eligible() != 70 || b.d.Due() != 74 {
		t.Errorf("%d %d", b.d.Eligible(), b.d.Due())
	}
	b.serve(api.RlReal, 3, 4) // there is no more than one byte up to Cap
	if b.d.Got() != api.Cap-256 || b.d.Eligible() != 73 || b.d.Due() != 74 {
		t.Errorf("%d: %d %d", b.d.Got(), b.d.Eligible(), b.d.Due())
	}
	b.serve(api.RlReal, 4, 65536)
	if b.d.Got() != api.Cap || b.d.Eligible() != 74 || b.d.Due() != 74 {
		t.Errorf("%d: %d %d", b.d.Got(), b.d.Eligible(), b.d.Due())
	}
	for _, c := range append(small(), wild()...) {
		for _, got := range []uint64{api.Cap - 1<<24 - 1, api.Cap - 1<<24, api.Cap - 257, api.Cap - 256, api.Cap - 255, api.Cap - 1, api.Cap} {
			b := at(t, c, got)
			b.wake(9, 1)
			b.serve(api.RlShare, 1, 65536)
			b.serve(api.RlReal, 65536, 1)
			b.serve(api.RlReal, 1, 1)
			b.serve(api.RlReal, 70000, 70000)
			b.serve(api.RlReal, 1, 0)
			b.wake(12, 2)
		}
	}
}

func TestWhatTheRunHasStops(t *testing.T) { // P18.3, P18.4
	b := made(t, straight(api.MaxSlope))
	b.wake(0, 1)
	b.owes(api.Cap-api.MaxSlope, api.Cap/api.MaxSlope-1)
	b.owes(api.Cap, api.Cap/api.MaxSlope, api.Cap/api.MaxSlope+1, api.MaxTick*8, api.Never, top)
	b = made(t, of(0, api.MaxTick, 1))
	b.wake(5, 1)
	b.owes(0, 0, 5, api.MaxTick, api.MaxTick+5)
	b.owes(1, api.MaxTick+6)
	b.owes(api.Cap-1, api.Cap+api.MaxTick+4)
	b.owes(api.Cap, api.Cap+api.MaxTick+5, api.Never, top)
	b = made(t, of(3, 7, 0)) // it stops by itself: 21 grains are less than a byte
	b.wake(5, 1)
	b.is(5, api.Never, 0)
	b.owes(21, 12, 13, api.MaxTick, api.Never, top)
}

// nobodys are debts that are nil, or that nobody made.
func nobodys() []*Debt {
	d := New(straight(3 * api.MaxSlope))
	return []*Debt{nil, d, new(Debt), {}, new(Debt).Copy(), d.Copy()}
}

func TestNobodys(t *testing.T) { // P18.1, P18.2, P18.3, P18.4
	for i, d := range nobodys() {
		asked := func(what string) {
			if d.Awake() || d.Eligible() != api.Never || d.Due() != api.Never || d.Got() != 0 || d.Copy() != nil {
				t.Errorf("%d, %s: %v %d %d %d %v", i, what, d.Awake(), d.Eligible(), d.Due(), d.Got(), d.Copy())
			}
			for _, n := range far() {
				if d.Owes(n) != 0 {
					t.Errorf("%d, %s: it owes %d at %d", i, what, d.Owes(n), n)
				}
			}
			if d != nil && *d != (Debt{}) {
				t.Errorf("%d, %s: %v", i, what, d)
			}
		}
		asked("nothing")
		for _, now := range far() {
			for _, length := range lengths() {
				d.Wake(now, length)
				asked("wake")
			}
		}
		for rule := range uint8(5) {
			for _, length := range lengths() {
				d.Serve(rule, length, 5)
				d.Serve(rule, 5, length)
				asked("serve")
			}
		}
	}
}

func TestWhatSleeps(t *testing.T) { // P18.1, P18.3, P18.4
	for _, c := range append(small(), wild()...) {
		b := made(t, c)
		b.sleeps(0)
		b.wake(33, 3)
		b.serve(api.RlReal, 3, 2)
		then := map[uint64]uint64{}
		for _, n := range far() {
			then[n] = b.d.Owes(n)
		}
		b.serve(api.RlShare, 2, 0)
		b.sleeps(3)
		for n, owed := range then {
			b.owes(owed, n)
		}
		b.copy().sleeps(3)
	}
}

func TestSentAhead(t *testing.T) { // P18.3: of a sagged curve what is eligible ahead of what is due, of a bent one not
	for _, c := range append(small(), wild()...) {
		b := made(t, c)
		b.wake(60, 3)
		for range 12 {
			due := b.p.first(b.d.Got(), b.p.d) // when all that it got is due
			if eligible := b.d.Eligible(); eligible > due || c.First > c.Rest && eligible != due {
				t.Fatalf("%v: %d is due at %d, the next one eligible at %d", c, b.d.Got(), due, eligible)
			}
			b.serve(api.RlReal, 3, 3)
		}
	}
	for i, x := range []struct {
		c         api.Curve
		first     uint64 // when the first head, of 8 bytes, is due
		next, due uint64 // from when on the next one is eligible, by when due
	}{
		{of(0, 20, 512), 84, 64, 88},
		{of(256, 4, 512), 66, 64, 70},
		{of(256, 8, 512), 68, 64, 72},
		{of(256, 9, 512), 68, 64, 73},
		{of(0, api.MaxTick, 512), 64 + api.MaxTick, 64, 68 + api.MaxTick},
		{straight(512), 64, 64, 68},
		{of(1024, 20, 512), 62, 62, 64},
		{of(1024, 1, 512), 63, 63, 67},
		{of(1024, 2, 256), 62, 62, 70},
		{of(1024, 2, 0), 62, 62, api.Never},
	} {
		b := made(t, x.c)
		b.wake(60, 8)
		if b.d.Eligible() != 60 || b.d.Due() != x.first {
			t.Errorf("%d: %d %d", i, b.d.Eligible(), b.d.Due())
		}
		b.serve(api.RlReal, 8, 8)
		if b.d.Eligible() != x.next || b.d.Due() != x.due {
			t.Errorf("%d: then %d %d", i, b.d.Eligible(), b.d.Due())
		}
	}
}

func TestSharesLeaveTheEligibleTick(t *testing.T) { // P18.2, P18.7
	chance := rand.New(rand.NewSource(18))
	for _, c := range append(small(), wild()...) {
		b := made(t, c)
		b.wake(uint64(chance.Intn(50)), 5)
		for range 20 {
			length := 1 + chance.Intn(30)
			b.serve(api.RlReal, chance.Intn(20), length)
			got, eligible, due := b.d.Got(), b.d.Eligible(), b.d.Due()
			b.serve(uint8(chance.Intn(2)*2), length, 1+chance.Intn(30))
			if b.d.Got() != got || b.d.Eligible() != eligible {
				t.Fatalf("%v: %d %d, not %d %d", c, b.d.Got(), b.d.Eligible(), got, eligible)
			}
			b.serve(api.RlShare, 9, length) // a head of that length is due as one was
			if b.d.Due() != due {
				t.Fatalf("%v: due at %d, not %d", c, b.d.Due(), due)
			}
		}
	}
}

// random is a curve that may be, of slopes and a Length of any size.
func random(chance *rand.Rand) api.Curve {
	any := func(most uint64) uint64 { return uint64(chance.Int63n(int64(most)+1)) >> chance.Intn(40) }
	for {
		c := of(any(api.MaxSlope), any(api.MaxTick), any(api.MaxSlope))
		if chance.Intn(4) == 0 {
			c = straight(c.Rest)
		}
		if written(c) {
			return c
		}
	}
}

// curves are many of each kind.
func curves(chance *rand.Rand) []api.Curve {
	l := append(small(), wild()...)
	for range 100 {
		l = append(l, random(chance))
	}
	return l
}

// length is that of a head: mostly of a few bytes, or of many, and sometimes one that may not be.
func length(chance *rand.Rand) int {
	switch chance.Intn(8) {
	case 0:
		return 1 + chance.Intn(api.MaxBytes)
	case 1:
		all := lengths()
		return all[chance.Intn(len(all))]
	}
	return 1 + chance.Intn(20)
}

// tick is one to wake up at: mostly somewhat behind the last time, or at what is eligible or due, and sometimes ahead of it, or far away.
func (b *both) tick(chance *rand.Rand) uint64 {
	switch chance.Intn(12) {
	case 0:
		return b.p.last() - min(b.p.last(), uint64(chance.Intn(30)))
	case 1:
		return b.p.last() + uint64(chance.Int63())>>(20+chance.Intn(40))
	case 2:
		return b.p.last() + b.p.c.Length
	case 3:
		return b.p.first(b.p.got, b.p.d) // when all is due that it got: 0, or Never, perhaps
	case 4:
		if chance.Intn(8) == 0 {
			return far()[chance.Intn(len(far()))]
		}
	}
	return b.p.last() + uint64(chance.Intn(25))
}

// step does something to the debt, be it awake or not.
func (b *both) step(chance *rand.Rand) {
	b.t.Helper()
	if !b.p.awake && chance.Intn(8) > 0 || b.p.awake && chance.Intn(8) == 0 {
		b.wake(b.tick(chance), length(chance))
		return
	}
	rule := uint8(1 + chance.Intn(2))
	if chance.Intn(16) == 0 {
		rule = uint8(chance.Intn(256))
	}
	next := length(chance)
	if chance.Intn(4) == 0 {
		next = 0
	}
	b.serve(rule, length(chance), next)
}

func TestPlayed(t *testing.T) { // P18.1, P18.2, P18.3, P18.4
	chance := rand.New(rand.NewSource(1))
	for _, c := range curves(chance) {
		for range 12 {
			b := made(t, c)
			for range 40 {
				b.step(chance)
			}
		}
	}
}

// TestAllShortPlays: each row of so many steps, of those, and each beginning of one.
func TestAllShortPlays(t *testing.T) { // P18.1, P18.2, P18.3, P18.4
	steps := []func(b *both){
		func(b *both) { b.wake(2, 1) },
		func(b *both) { b.wake(7, 3) },
		func(b *both) { b.wake(5, 0) },
		func(b *both) { b.serve(api.RlReal, 2, 1) },
		func(b *both) { b.serve(api.RlShare, 1, 4) },
		func(b *both) { b.serve(api.RlReal, 3, 0) },
		func(b *both) { b.serve(api.RlShare, 3, 0) },
	}
	var play func(b *both, left int)
	play = func(b *both, left int) {
		for _, step := range steps {
			if left > 0 {
				then := b.copy()
				step(then)
				play(then, left-1)
			}
		}
	}
	for _, c := range []api.Curve{{}, straight(256), straight(300), of(700, 3, 256), of(700, 3, 0), of(256, 3, 700), of(0, 4, 256)} {
		play(made(t, c), 5)
	}
}

// slowly is the first tick from the last start on at which y is there, asked tick by tick.
func (p *plain) slowly(y uint64, at func(t uint64) uint64) uint64 {
	for n := p.last(); n < p.last()+3000; n++ {
		if at(n) >= y {
			return n
		}
	}
	return api.Never
}

func TestTickByTick(t *testing.T) { // P18.3
	chance := rand.New(rand.NewSource(5))
	for _, c := range small() {
		b := made(t, c)
		for range 30 {
			b.wake(b.p.last()+uint64(chance.Intn(20)), chance.Intn(9))
			rule, sent, next := uint8(1+chance.Intn(2)), chance.Intn(9), chance.Intn(5)
			b.serve(rule, sent, next)
			if b.p.awake && (b.d.Eligible() != b.p.slowly(b.p.got, b.p.e) || b.d.Due() != b.p.slowly(b.p.got+256*uint64(next), b.p.d)) {
				t.Fatalf("%v: eligible at %d, due at %d", b.p, b.d.Eligible(), b.d.Due())
			}
		}
	}
}

func TestDueBehindEligible(t *testing.T) { // P18.5
	chance := rand.New(rand.NewSource(185))
	for _, c := range curves(chance) {
		for range 12 {
			b := made(t, c)
			woke := uint64(0)
			for range 30 {
				if !b.p.awake {
					woke = b.tick(chance)
					b.wake(woke, length(chance))
				} else {
					b.step(chance)
				}
				if b.d.Awake() && b.d.Due() < max(b.d.Eligible(), min(woke, api.Never)) {
					t.Fatalf("%v, woken at %d: eligible at %d, due at %d", b.p, woke, b.d.Eligible(), b.d.Due())
				}
			}
		}
	}
}

// owed is a head that was sent by RlReal, or waits: when the leaf had woken up, and its ticks.
type owed struct {
	bytes               int
	woke, eligible, due uint64
}

// head is the head that waits.
func (b *both) head(bytes int, woke uint64) owed {
	return owed{bytes, woke, b.d.Eligible(), b.d.Due()}
}

// heads are those of a leaf that wakes up, and is served by either rule, or falls asleep, as it comes: those that are sent by RlReal, and the one that waits. Nobody asks whether they are eligible, so that they are sent as early as that may be.
func heads(t *testing.T, chance *rand.Rand, c api.Curve, most int) []owed {
	t.Helper()
	b := made(t, c)
	var l []owed
	bytes, woke := 0, uint64(0)
	for range 40 {
		if !b.p.awake {
			bytes, woke = 1+chance.Intn(most), b.tick(chance)
			b.wake(woke, bytes)
			continue
		}
		rule := uint8(1 + chance.Intn(4)/3)
		if rule == api.RlReal {
			l = append(l, b.head(bytes, woke))
		}
		next := 0
		if chance.Intn(5) > 0 {
			next = 1 + chance.Intn(most)
		}
		b.serve(rule, bytes, next)
		bytes = next
	}
	if b.p.awake {
		l = append(l, b.head(bytes, woke))
	}
	return l
}

// between are the grains of those that become eligible behind s, or wake up at s or later, and are due by e.
func between(l []owed, s, e uint64) big {
	n := big{}
	for _, h := range l {
		if (h.eligible > s || h.woke >= s) && h.due <= e {
			n = n.plus(product(256, uint64(h.bytes)))
		}
	}
	return n
}

// isBound checks that this is at most what the curve has at e - s: 0, if e is ahead of s.
func isBound(t *testing.T, c api.Curve, l []owed, s, e uint64) {
	t.Helper()
	most := big{}
	if e > s {
		most = has(c, e-s)
	}
	if n := between(l, s, e); e < api.Never && most.less(n) {
		t.Fatalf("%v: behind %d %v are due by %d, not %v: %v", c, s, n, e, most, l)
	}
}

func TestNeverMoreThanTheCurve(t *testing.T) { // P18.6
	chance := rand.New(rand.NewSource(186))
	for _, c := range curves(chance) {
		for k := range 8 {
			most := []int{3, 20, api.MaxBytes - 1}[k%3]
			l := heads(t, chance, c, most)
			for _, h := range l {
				for _, s := range []uint64{h.eligible - min(h.eligible, 1), h.eligible, h.woke, h.woke + 1, 0} { // as late as it counts, and so as little as the curve has
					for _, g := range l {
						isBound(t, c, l, s, g.due)
					}
				}
			}
		}
	}
}

func TestNeverMoreBetweenAllTicks(t *testing.T) { // P18.6
	chance := rand.New(rand.NewSource(68))
	for _, c := range small() {
		for range 3 {
			l := heads(t, chance, c, 6)
			first := l[0].woke
			for s := range uint64(60) {
				for e := range uint64(120) {
					isBound(t, c, l, first+s, first+e)
				}
			}
		}
	}
}

func TestJustAsMuchAsTheCurve(t *testing.T) { // P18.6: no less, if something always waits
	for _, c := range []api.Curve{straight(256), straight(1024), of(2560, 7, 256), of(512, 7, 0), of(256, 7, 2560), of(0, 7, 256)} {
		d := New(c)
		d.Wake(30, 1)
		var l []owed
		for range 100 {
			l = append(l, owed{1, 30, d.Eligible(), d.Due()})
			d.Serve(api.RlReal, 1, 1)
		}
		for n := range uint64(12) {
			isBound(t, c, l, 30, 30+n)
			if between(l, 30, 30+n) != has(c, n) {
				t.Errorf("%v: %v by %d", c, between(l, 30, 30+n), n)
			}
		}
	}
}

// TestHeadsOfTheSameLength: whatever is sent, there is one deadline of each length for each c, and none ahead of one for less.
func TestHeadsOfTheSameLength(t *testing.T) { // P18.7
	type due struct{ got, at uint64 }
	sizes := []int{1, 2, 9, 300, 65536}
	chance := rand.New(rand.NewSource(187))
	for _, c := range curves(chance) {
		for range 4 {
			b := made(t, c)
			b.wake(b.tick(chance), 1)
			b.serve(api.RlReal, length(chance), 0)
			b.wake(b.tick(chance), 1)
			last := map[int]due{}
			for range 30 {
				size := sizes[chance.Intn(len(sizes))]
				b.serve(uint8(1+chance.Intn(2)), sizes[chance.Intn(len(sizes))], size)
				now := due{b.d.Got(), b.d.Due()}
				was, is := last[size]
				if is && (now.got == was.got && now.at != was.at || now.at < was.at) {
					t.Fatalf("%v, %d bytes: %v, then %v", b.p, size, was, now)
				}
				last[size] = now
			}
		}
	}
}

func TestTheDeadlineRisesWithWhatItGotAlone(t *testing.T) { // P18.7: in numbers
	b := made(t, straight(512))
	b.wake(10, 6)
	for _, x := range []struct {
		rule uint8
		due  uint64 // of the next head, of 6 bytes, too
	}{{api.RlShare, 13}, {api.RlReal, 16}, {api.RlShare, 16}, {api.RlShare, 16}, {api.RlReal, 19}, {api.RlReal, 22}, {0, 22}, {3, 22}, {api.RlReal, 25}} {
		b.serve(x.rule, 6, 6)
		if b.d.Due() != x.due {
			t.Errorf("by %d: due at %d, not %d", x.rule, b.d.Due(), x.due)
		}
	}
}

func TestCopyExamples(t *testing.T) { // P18.4
	for _, c := range []api.Curve{straight(256), of(1024, 10, 256), of(0, 10, 256), {}} {
		b := made(t, c)
		asleep := b.copy()
		b.wake(5, 4)
		awake := b.copy()
		asleep.sleeps(0)
		asleep.owes(0, 5, 100, top)
		b.serve(api.RlReal, 4, 6)
		if awake.d.Got() != 0 || awake.d.Eligible() != 5 {
			t.Errorf("%v: the copy is served, too", c)
		}
		awake.serve(api.RlShare, 4, 0)
		b.serve(api.RlReal, 6, 1)
		awake.wake(40, 2)
		asleep.wake(90, 3)
		for _, x := range []*both{b, awake, asleep} {
			x.holds("beside its copies")
			if last, _ := x.d.own.Last(); last != x.p.last() {
				t.Errorf("%v: %d", c, last)
			}
		}
	}
}

func TestCopyGoesOnAlone(t *testing.T) { // P18.4
	chance := rand.New(rand.NewSource(184))
	for _, c := range curves(chance) {
		b := made(t, c)
		for range 6 {
			for range chance.Intn(12) {
				b.step(chance)
			}
			same := b.copy()
			if !reflect.DeepEqual(same.d, b.d) {
				t.Fatalf("%v: %v, not %v", b.p, same.d, b.d)
			}
			for range 5 { // by turns, so that neither writes where the other one has its own
				same.step(chance)
				b.holds("beside its copy")
				b.step(chance)
				same.holds("beside what it is a copy of")
			}
			if chance.Intn(2) == 0 {
				b = same
			}
		}
	}
}

func TestAskingChangesNothing(t *testing.T) { // P18.1, P18.3, P18.4
	chance := rand.New(rand.NewSource(4))
	for _, c := range curves(chance) {
		b := made(t, c)
		for range 10 {
			b.step(chance)
			b.unchanged("asked", func(d *Debt) {
				for _, n := range far() {
					d.Owes(n)
				}
				d.Awake()
				d.Eligible()
				d.Due()
				d.Got()
				d.Copy().Wake(top, 5)
				d.Copy().Serve(api.RlReal, 5, 0)
			})
		}
	}
}
