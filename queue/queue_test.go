package queue

import (
	"math"
	"math/rand"
	"slices"
	"testing"

	"distributary/api"
)

// greatest is the most bytes that a packet may have.
const greatest = api.MaxBytes - 1

// row is what a queue is held against: the packets that are in, and what there is room for in all.
type row struct {
	packets, bytes int
	in             []api.Packet
}

// held are the bytes of those in.
func (r *row) held() int {
	n := 0
	for _, p := range r.in {
		n += p.Length
	}
	return n
}

// push is what a push is told, by the chapter's words; a packet that is taken is the last one.
func (r *row) push(p api.Packet) api.Errno {
	if p.Length < 1 || p.Length > greatest {
		return api.ErrLength
	}
	if len(r.in) == r.packets || r.held()+p.Length > r.bytes {
		return api.ErrQueue
	}
	r.in = append(r.in, p)
	return api.OK
}

// pop takes the first one.
func (r *row) pop() (api.Packet, bool) {
	p, is := r.head()
	if is {
		r.in = r.in[1:]
	}
	return p, is
}

func (r *row) head() (api.Packet, bool) {
	if len(r.in) == 0 {
		return api.Packet{}, false
	}
	return r.in[0], true
}

func (r *row) copy() *row {
	return &row{packets: r.packets, bytes: r.bytes, in: slices.Clone(r.in)}
}

// same holds all that a queue tells against the row (P11.1, P11.2, P11.3), and against its room (P11.5).
func same(t *testing.T, q *Queue, r *row) {
	t.Helper()
	if n := q.Len(); n != len(r.in) {
		t.Fatalf("%d packets, not %d", n, len(r.in))
	}
	if n := q.Bytes(); n != r.held() {
		t.Fatalf("%d bytes, not %d", n, r.held())
	}
	if packets, bytes := q.Room(); packets != r.packets-len(r.in) || bytes != r.bytes-r.held() {
		t.Fatalf("room for %d, %d, not for %d, %d", packets, bytes, r.packets-len(r.in), r.bytes-r.held())
	}
	if l := q.All(); !slices.Equal(l, r.in) {
		t.Fatalf("%v, not %v", l, r.in)
	}
	p, is := q.Head()
	if want, wants := r.head(); p != want || is != wants {
		t.Fatalf("the head %v %v, not %v %v", p, is, want, wants)
	}
	packets, bytes := q.Room()
	if packets < 0 || bytes < 0 || packets+q.Len() != r.packets || bytes+q.Bytes() != r.bytes {
		t.Fatalf("%d and %d packets, %d and %d bytes", packets, q.Len(), bytes, q.Bytes())
	}
}

// both are a queue and its row, of which each step is held against the other.
type both struct {
	t *testing.T
	q *Queue
	r *row
}

func start(t *testing.T, packets, bytes int) *both {
	t.Helper()
	b := &both{t: t, q: New(packets, bytes), r: &row{packets: packets, bytes: bytes}}
	if b.q == nil {
		t.Fatalf("no queue of %d, %d", packets, bytes)
	}
	same(t, b.q, b.r)
	return b
}

func (b *both) push(p api.Packet) api.Errno {
	b.t.Helper()
	e, want := b.q.Push(p), b.r.push(p)
	if e != want {
		b.t.Fatalf("%v into %v: %d, not %d", p, b.r.in, e, want)
	}
	same(b.t, b.q, b.r)
	return e
}

func (b *both) pop() (api.Packet, bool) {
	b.t.Helper()
	p, is := b.q.Pop()
	if want, wants := b.r.pop(); p != want || is != wants {
		b.t.Fatalf("%v %v went, not %v %v", p, is, want, wants)
	}
	same(b.t, b.q, b.r)
	return p, is
}

func (b *both) copy() *both { return &both{t: b.t, q: b.q.Copy(), r: b.r.copy()} }

// told wants that a push is told so.
func (b *both) told(p api.Packet, want api.Errno) {
	b.t.Helper()
	if e := b.push(p); e != want {
		b.t.Fatalf("%v into %v: %d, not %d", p, b.r.in, e, want)
	}
}

// of is a packet that is like no other one.
func of(id uint64, length int) api.Packet {
	return api.Packet{Id: id, Class: 3 - int(id%7), Length: length, At: 1000 - id*id}
}

// wrong are lengths that may not be.
func wrong() []int {
	return []int{0, -1, -2, -100, -greatest, math.MinInt + 1, math.MinInt, api.MaxBytes, api.MaxBytes + 1, 1 << 17, api.MaxRoom, 1 << 32, math.MaxInt - 1, math.MaxInt}
}

func TestNew(t *testing.T) { // P11.1
	rooms := []struct {
		n       int
		packets bool // whether there may be room for so many
		bytes   bool
	}{
		{math.MinInt, false, false},
		{-api.MaxQueue, false, false},
		{-1, false, false},
		{0, false, false},
		{1, true, true},
		{2, true, true},
		{100, true, true},
		{api.MaxQueue - 1, true, true},
		{api.MaxQueue, true, true},
		{api.MaxQueue + 1, false, true},
		{greatest, false, true},
		{api.MaxRoom - 1, false, true},
		{api.MaxRoom, false, true},
		{api.MaxRoom + 1, false, false},
		{1 << 32, false, false},
		{1<<32 + 1, false, false},
		{math.MaxInt, false, false},
	}
	for _, x := range rooms {
		for _, y := range rooms {
			q := New(x.n, y.n)
			if is := q != nil; is != (x.packets && y.bytes) {
				t.Errorf("a queue of %d, %d: %v", x.n, y.n, is)
			}
			if q != nil {
				same(t, q, &row{packets: x.n, bytes: y.n})
			}
		}
	}
}

func TestNobodyMade(t *testing.T) { // P11.1, P11.2, P11.3: a nil queue, and one that nobody made
	var none *Queue
	for _, q := range []*Queue{none, {}, new(Queue)} {
		for range 2 { // whatever is pushed changes nothing
			same(t, q, &row{})
			if p, is := q.Pop(); is || p != (api.Packet{}) {
				t.Errorf("%v went", p)
			}
			if c := q.Copy(); c != nil {
				t.Errorf("a copy: %v", c)
			}
			for _, length := range append(wrong(), 1, 2, 100, greatest) {
				if e := q.Push(of(5, length)); e != api.ErrNil {
					t.Errorf("%d: %d", length, e)
				}
			}
		}
	}
	// What New didn't make is such a one.
	if e := New(0, 5).Push(of(1, 1)); e != api.ErrNil {
		t.Errorf("%d", e)
	}
}

func TestExample(t *testing.T) { // the chapter's own
	b := start(t, 2, 100)
	b.told(of(1, 60), api.OK)
	b.told(of(2, 41), api.ErrQueue)
	b.told(of(3, 40), api.OK)
	b.told(of(4, 1), api.ErrQueue)
}

func TestLengths(t *testing.T) { // P11.2
	b := start(t, 10, api.MaxRoom)
	for _, length := range wrong() {
		b.told(of(1, length), api.ErrLength)
	}
	for i, length := range []int{1, 2, 1500, greatest - 1, greatest} {
		b.told(of(uint64(i), length), api.OK)
	}
	for _, length := range wrong() {
		b.told(of(9, length), api.ErrLength)
	}
	for {
		if _, is := b.pop(); !is {
			break
		}
	}
}

func TestFull(t *testing.T) { // P11.2: one that may not be is told so ahead of there being no room
	for _, x := range []struct {
		packets, bytes int
		lengths        []int // those that are taken
		more           int   // one for which there is no room
	}{
		{3, 1000, []int{1, 1, 1}, 1}, // full by its packets
		{3, 1000, []int{5, 7, 9}, 979},
		{1, 1, []int{1}, 1}, // by both
		{1, api.MaxRoom, []int{1}, 1},
		{1, api.MaxRoom, []int{greatest}, greatest},
		{9, 1, []int{1}, 1}, // by its bytes
		{9, 100, []int{60, 40}, 1},
		{9, 100, []int{60, 39, 1}, 1},
		{9, 100, []int{99}, 2},
		{9, 100, []int{60}, 41},
		{9, 100, nil, 101}, // more than there is room for ever
		{9, 100, nil, greatest},
		{2, 100, []int{60, 40}, 1}, // by both
		{3, greatest, []int{1, greatest - 2, 1}, greatest},
		{2, greatest + 1, []int{greatest, 1}, 1},
		{3, greatest + 1, []int{greatest}, 2},
	} {
		b := start(t, x.packets, x.bytes)
		for i, length := range x.lengths {
			b.told(of(uint64(i), length), api.OK)
		}
		for range 2 {
			b.told(of(20, x.more), api.ErrQueue)
			for _, length := range wrong() {
				b.told(of(21, length), api.ErrLength)
			}
		}
	}
}

func TestJustFits(t *testing.T) { // P11.2: just fits; too great by one byte
	for _, bytes := range []int{1, 2, 3, 100, greatest, greatest + 1, api.MaxRoom} {
		for _, in := range []int{0, 1, 2, 50, 99, 100} {
			if in >= bytes {
				continue
			}
			b := start(t, 300, bytes)
			if in > 0 {
				b.told(of(1, in), api.OK)
			}
			for bytes-b.r.held() > greatest { // so that one packet is enough
				b.told(of(2, min(greatest, bytes-b.r.held()-1)), api.OK)
			}
			left := bytes - b.r.held()
			if left < greatest {
				b.told(of(3, left+1), api.ErrQueue)
			}
			c := b.copy()
			c.told(of(4, left), api.OK)
			c.told(of(5, 1), api.ErrQueue)
			if left > 1 {
				b.told(of(6, left-1), api.OK)
				b.told(of(7, 2), api.ErrQueue)
				b.told(of(8, 1), api.OK)
				b.told(of(9, 1), api.ErrQueue)
			}
		}
	}
}

func TestGreatest(t *testing.T) { // P11.1, P11.2, P11.5: as many packets, and bytes, as there may be
	q := New(api.MaxQueue, api.MaxRoom)
	const each = api.MaxRoom / api.MaxQueue // full by both at once
	for round := range 3 {
		for i := range uint64(api.MaxQueue) {
			if e := q.Push(of(i, each)); e != api.OK {
				t.Fatalf("%d: %d", i, e)
			}
		}
		if packets, bytes := q.Room(); packets != 0 || bytes != 0 || q.Len() != api.MaxQueue || q.Bytes() != api.MaxRoom {
			t.Fatalf("round %d: %d, %d are left", round, packets, bytes)
		}
		if e := q.Push(of(1, 1)); e != api.ErrQueue {
			t.Fatalf("one more: %d", e)
		}
		for i, p := range q.All() {
			if p != of(uint64(i), each) {
				t.Fatalf("%d: %v", i, p)
			}
		}
		for i := range uint64(api.MaxQueue) {
			if p, is := q.Pop(); p != of(i, each) || !is {
				t.Fatalf("%d: %v %v", i, p, is)
			}
		}
	}
	b := start(t, api.MaxQueue, api.MaxRoom)
	for range api.MaxRoom / greatest {
		b.told(of(2, greatest), api.OK)
	}
	left := api.MaxRoom % greatest
	b.told(of(3, left+1), api.ErrQueue)
	b.told(of(4, left), api.OK)
	b.told(of(5, 1), api.ErrQueue)
}

func TestUnaltered(t *testing.T) { // P11.4: whatever else a packet has
	const top = math.MaxUint64
	b := start(t, 20, 1000)
	for _, p := range []api.Packet{
		{Length: 1},
		{Id: top, Class: math.MaxInt, Length: 2, At: top},
		{Id: 1 << 63, Class: math.MinInt, Length: 3, At: 1 << 63},
		{Id: 7, Class: -1, Length: 100, At: 12},
		{Id: 7, Class: -1, Length: 100, At: 12}, // the same once more: each goes by itself
		{Id: 6, Class: 3, Length: 1, At: 11},    // one that came earlier, by its own tick
		{Id: 6, Class: 3, Length: 1, At: 0},
		{Length: 1},
	} {
		b.told(p, api.OK)
	}
	for range 9 {
		b.pop()
	}
}

func TestEmpty(t *testing.T) { // P11.2: the first one of an empty queue, and what goes from it
	b := start(t, 3, 10)
	empty := func() {
		t.Helper()
		for range 3 {
			if p, is := b.q.Head(); is || p != (api.Packet{}) {
				t.Fatalf("the head %v", p)
			}
			if p, is := b.pop(); is || p != (api.Packet{}) {
				t.Fatalf("%v went", p)
			}
			if l := b.q.All(); len(l) != 0 {
				t.Fatalf("%v", l)
			}
		}
	}
	empty()
	b.told(of(1, 11), api.ErrQueue)
	b.told(of(1, 0), api.ErrLength)
	empty()
	b.told(of(1, 10), api.OK)
	b.pop()
	empty()
	for i := range uint64(3) {
		b.told(of(i, 3), api.OK)
	}
	for range 3 {
		b.pop()
	}
	empty()
}

func TestHeadStays(t *testing.T) { // P11.2: to ask for the first one takes nothing
	b := start(t, 5, 50)
	for i := range uint64(5) {
		b.told(of(i, 10), api.OK)
		for range 3 {
			if p, is := b.q.Head(); p != of(0, 10) || !is {
				t.Fatalf("%v %v", p, is)
			}
		}
	}
}

func TestTurnsRound(t *testing.T) { // P11.4: filled, emptied, and filled again
	for _, packets := range []int{1, 2, 3, 4, 5, 7, 8, 9, 15, 16, 17, 31, 33} {
		b := start(t, packets, 10*packets)
		next := uint64(0)
		push := func() { next++; b.push(of(next, 1+int(next%10))) }
		for range 4 {
			for len(b.r.in) < packets {
				push()
			}
			push()
			for len(b.r.in) > 0 {
				b.pop()
			}
			b.pop()
		}
		for in := range packets { // with so many in, all the time, it goes round and round
			for len(b.r.in) <= in {
				push()
			}
			for range 3*packets + 1 {
				b.pop()
				push()
			}
		}
	}
}

func TestGrowsInItsMidst(t *testing.T) { // P11.4: its first packet anywhere in the ring when that is full
	const packets = 70
	for filled := range 40 {
		for gone := range filled + 1 {
			b := start(t, packets, 10000)
			next := uint64(0)
			push := func(n int) {
				for range n {
					next++
					b.told(of(next, 1+int(next%10)), api.OK)
				}
			}
			push(filled)
			for range gone {
				b.pop()
			}
			push(packets - len(b.r.in))
			b.told(of(99, 1), api.ErrQueue)
			for want := uint64(gone) + 1; want <= next; want++ {
				if p, _ := b.q.Pop(); p.Id != want {
					t.Fatalf("%d filled, %d gone: %d went, not %d", filled, gone, p.Id, want)
				}
			}
			if b.q.Len() != 0 || b.q.Bytes() != 0 {
				t.Fatalf("%d, %d are left", b.q.Len(), b.q.Bytes())
			}
		}
	}
}

func TestAllIsTheCallersOwn(t *testing.T) { // P11.3: wherever in the ring they stand
	const packets = 9
	for filled := range packets + 1 {
		for gone := range filled + 1 {
			for more := range gone + 1 {
				b := start(t, packets, 100)
				for i := range filled {
					b.told(of(uint64(i), 10), api.OK)
				}
				for range gone {
					b.pop()
				}
				for range more {
					b.told(of(30, 7), api.OK)
				}
				changedBehindIt(b)
			}
		}
	}
}

// changedBehindIt changes what All told, and the queue behind it: neither goes on with the other.
func changedBehindIt(b *both) {
	b.t.Helper()
	l, other := b.q.All(), b.q.All()
	was := slices.Clone(l)
	for i := range l {
		l[i] = api.Packet{Id: 77, Length: 77}
	}
	for range 4 {
		l = append(l, of(50, 5))
	}
	same(b.t, b.q, b.r)
	for i := range uint64(12) {
		b.pop()
		b.push(of(60+i, 1))
	}
	if !slices.Equal(other, was) {
		b.t.Fatalf("%v, not %v", other, was)
	}
	if len(l) != len(was)+4 {
		b.t.Fatalf("%d", len(l))
	}
}

func TestCopy(t *testing.T) { // P11.3
	const packets = 12
	for filled := range packets + 1 {
		for gone := range filled + 1 {
			b := start(t, packets, 100)
			for i := range filled {
				b.told(of(uint64(i), 1+i%8), api.OK)
			}
			for range gone {
				b.pop()
			}
			b.push(of(40, 3)) // in a ring that turned round, too
			c := b.copy()
			same(t, c.q, c.r)
			for i := range uint64(2 * packets) { // the copy is changed, the queue isn't
				c.push(of(100+i, 2))
				c.pop()
				c.push(of(200+i, 5))
				same(t, b.q, b.r)
			}
			again := b.copy()
			for i := range uint64(2 * packets) { // and the other way round
				b.push(of(300+i, 4))
				b.push(of(400+i, 1))
				b.pop()
				same(t, again.q, again.r)
			}
			for again.q.Len() > 0 {
				again.pop()
				same(t, b.q, b.r)
			}
			again.push(of(500, 100))
			same(t, b.q, b.r)
			for b.q.Len() > 0 {
				b.pop()
				same(t, again.q, again.r)
				same(t, c.q, c.r)
			}
		}
	}
}

func TestCopyOfCopies(t *testing.T) { // P11.3: each is as the one that it is of, with the same room
	for _, bytes := range []int{1, 30, 100, api.MaxRoom} {
		b := start(t, 4, bytes)
		for i := range uint64(7) {
			b = b.copy()
			b.push(of(i, 1+int(i*7%40)))
			if i%3 == 2 {
				b = b.copy()
				b.pop()
			}
		}
		for range 6 {
			b = b.copy()
			b.pop()
		}
		for i := range uint64(6) {
			b.push(of(i, 1))
		}
	}
}

func TestEachShortWay(t *testing.T) { // P11.2 to P11.5: all orders of a few steps
	for _, room := range [][2]int{{1, 1}, {1, 3}, {2, 3}, {3, 3}, {3, 5}, {5, 4}, {2, 1 << 20}} {
		var on func(b *both, steps int)
		on = func(b *both, steps int) {
			if steps == 0 {
				return
			}
			for _, length := range []int{0, 1, 2, 3, 4} {
				c := b.copy()
				c.push(of(uint64(10*steps+length), length))
				on(c, steps-1)
			}
			c := b.copy()
			c.pop()
			on(c, steps-1)
		}
		on(start(t, room[0], room[1]), 6)
	}
}

func TestEachOrder(t *testing.T) { // P11.4: the same in one queue, without a copy between: all orders of pushes and pops
	const steps = 13
	for _, room := range [][2]int{{2, 100}, {4, 100}, {9, 100}, {9, 8}} {
		for way := range 1 << steps {
			b := start(t, room[0], room[1])
			for step := range steps {
				if way>>step&1 == 1 {
					b.push(of(uint64(step), 1+step%3))
				} else {
					b.pop()
				}
			}
		}
	}
}

// anyOf is a packet by chance: most may be, and many fit just, or nearly.
func anyOf(chance *rand.Rand, id uint64, b *both) api.Packet {
	p := api.Packet{Id: id, Class: chance.Intn(9) - 2, At: chance.Uint64() >> chance.Intn(64)}
	_, bytes := b.q.Room()
	switch chance.Intn(12) {
	case 0:
		p.Length = wrong()[chance.Intn(len(wrong()))]
	case 1, 2, 3:
		p.Length = bytes + chance.Intn(4) - 2
	case 4:
		p.Length = greatest - chance.Intn(2)
	default:
		p.Length = 1 + chance.Intn(b.r.bytes)/max(1, b.r.packets)
	}
	return p
}

func TestWhateverOrder(t *testing.T) { // P11.2 to P11.5, held against a plain row behind each step
	chance := rand.New(rand.NewSource(114))
	for range 400 {
		b := start(t, 1+chance.Intn(40), 1+chance.Intn(1<<chance.Intn(20)))
		id := uint64(0)
		for range 30 {
			pushes := 1 + chance.Intn(9) // of ten steps: so that it is full for a while, and empty for a while
			for range chance.Intn(30) {
				if id++; chance.Intn(10) < pushes {
					b.push(anyOf(chance, id, b))
				} else {
					b.pop()
				}
			}
			if chance.Intn(8) == 0 {
				b = b.copy()
			}
		}
	}
}

func TestEachOnce(t *testing.T) { // P11.4: what was taken goes in that order, and nothing else
	chance := rand.New(rand.NewSource(115))
	for range 50 {
		q := New(1+chance.Intn(200), 1+chance.Intn(5000))
		var came, went []api.Packet
		for id := range uint64(3000) {
			if p := of(id, chance.Intn(120)-5); q.Push(p) == api.OK {
				came = append(came, p)
			}
			for range chance.Intn(3) {
				if p, is := q.Pop(); is {
					went = append(went, p)
				}
			}
		}
		if went = append(went, q.All()...); !slices.Equal(went, came) {
			t.Fatalf("%d went, %d came", len(went), len(came))
		}
	}
}

func TestRoomAgain(t *testing.T) { // P11.6: taken when as much has gone, and no earlier
	chance := rand.New(rand.NewSource(116))
	refused := 0
	for range 3000 {
		packets, bytes := 1+chance.Intn(12), 1+chance.Intn(200)
		b := start(t, packets, bytes)
		for id := range uint64(30) {
			p := of(id, 1+chance.Intn(2*bytes/packets+1))
			if b.push(p) == api.OK {
				continue
			}
			refused++
			packetsOver, bytesOver := len(b.r.in)+1-packets, b.r.held()+p.Length-bytes // what has to go
			for b.q.Len() > 0 && (packetsOver > 0 || bytesOver > 0) {
				b.told(p, api.ErrQueue)
				first, _ := b.pop()
				packetsOver--
				bytesOver -= first.Length
			}
			if bytesOver > 0 { // there is never so much room
				b.told(p, api.ErrQueue)
				continue
			}
			b.told(p, api.OK)
		}
	}
	if refused < 1000 {
		t.Errorf("only %d were refused", refused)
	}
}

func TestNeverFits(t *testing.T) { // P11.6: of more bytes than there is room for ever
	b := start(t, 5, 100)
	for i := range uint64(4) {
		b.told(of(i, 25), api.OK)
	}
	for range 5 {
		b.told(of(9, 101), api.ErrQueue)
		b.pop()
	}
	b.told(of(9, 100), api.OK)
}
