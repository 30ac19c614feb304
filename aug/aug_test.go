package aug

import (
	"iter"
	"math"
	"math/rand"
	"slices"
	"testing"
)

const top = math.MaxUint64

// item is an id with its key and its value.
type item struct {
	id         int
	key, value uint64
}

// row holds ids in no order: what a tree is held against.
type row []item

// put is the row with the id in it, as the item has it.
func (r row) put(x item) row { return append(r.drop(x.id), x) }

// drop is the row without the id.
func (r row) drop(id int) row {
	return slices.DeleteFunc(slices.Clone(r), func(x item) bool { return x.id == id })
}

func (r row) get(id int) (item, bool) {
	for _, x := range r {
		if x.id == id {
			return x, true
		}
	}
	return item{}, false
}

// ids are all, by the chapter's words: by keys, and of the same key by ids.
func (r row) ids() []int {
	ahead := func(a, b item) bool { return a.key < b.key || a.key == b.key && a.id < b.id }
	var l []int
	left := slices.Clone(r)
	for len(left) > 0 {
		first := left[0]
		for _, x := range left {
			if ahead(x, first) {
				first = x
			}
		}
		l, left = append(l, first.id), left.drop(first.id)
	}
	return l
}

// least is the id of the least value, of those with keys of at most k, of some with the same value the least id.
func (r row) least(k uint64) (int, bool) {
	var best item
	is := false
	for _, x := range r {
		if x.key > k {
			continue
		}
		if !is || x.value < best.value || x.value == best.value && x.id < best.id {
			best, is = x, true
		}
	}
	return best.id, is
}

// within is the first id, by keys, whose value is at most v.
func (r row) within(v uint64) (int, bool) {
	for _, id := range r.ids() {
		if x, _ := r.get(id); x.value <= v {
			return id, true
		}
	}
	return 0, false
}

func (r row) lowest() (uint64, bool) {
	var values []uint64
	for _, x := range r {
		values = append(values, x.value)
	}
	if len(values) == 0 {
		return 0, false
	}
	return slices.Min(values), true
}

// turns are the numbers at which answers may turn, those beside them, and the edges of all numbers.
func turns(r row, number func(x item) uint64) []uint64 {
	l := []uint64{0, 1, top - 1, top}
	for _, x := range r {
		n := number(x)
		l = append(l, n, n-1, n+1)
	}
	slices.Sort(l)
	return slices.Compact(l)
}

func keyOf(x item) uint64 { return x.key }

func valueOf(x item) uint64 { return x.value }

// holds checks that a tree answers as the row does, whatever is asked, and that what it stands on is well.
func holds(t *testing.T, x *Tree, r row) {
	t.Helper()
	ids := r.ids()
	if x.Len() != len(r) || !slices.Equal(x.Ids(), ids) {
		t.Fatalf("%v: %d in it: %v, not %v", r, x.Len(), x.Ids(), ids)
	}
	if id, is := x.First(); is != (len(r) > 0) || is && id != ids[0] || !is && id != 0 {
		t.Fatalf("%v: first is %d %v", r, id, is)
	}
	if v, is := x.Lowest(); !both(v, is)(r.lowest()) {
		t.Fatalf("%v: lowest is %d %v", r, v, is)
	}
	for _, k := range turns(r, keyOf) {
		if id, is := x.Least(k); !both(id, is)(r.least(k)) {
			t.Fatalf("%v: least of keys up to %d is %d %v", r, k, id, is)
		}
	}
	for _, v := range turns(r, valueOf) {
		if id, is := x.Within(v); !both(id, is)(r.within(v)) {
			t.Fatalf("%v: first within %d is %d %v", r, v, id, is)
		}
	}
	for _, id := range append(ids, 0, 1, -1, 999, math.MaxInt, math.MinInt) {
		key, value, is := x.Get(id)
		if want, any := r.get(id); key != want.key || value != want.value || is != any {
			t.Fatalf("%v: %d is %d %d %v", r, id, key, value, is)
		}
	}
	if !x.marks.Well(func(a, b mark) bool { return a == b }) || len(x.keys) != len(r) {
		t.Fatalf("%v: isn't well", r)
	}
}

// both is what tells whether two results are those.
func both[T comparable](a T, is bool) func(T, bool) bool {
	return func(b T, too bool) bool { return a == b && is == too }
}

// filled is a tree with such ids, put in that order, and the row of them.
func filled(l ...item) (*Tree, row) {
	x, r := New(), row{}
	for _, i := range l {
		x.Put(i.id, i.key, i.value)
		r = r.put(i)
	}
	return x, r
}

// some are n ids whose keys and values are often the same.
func some(chance *rand.Rand, n int) []item {
	var l []item
	for i := range n {
		l = append(l, item{i - n/3, uint64(chance.Intn(n + 1)), uint64(chance.Intn(n/2 + 1))})
	}
	chance.Shuffle(n, func(i, j int) { l[i], l[j] = l[j], l[i] })
	return l
}

// orders goes over all orders of the items.
func orders(l []item) iter.Seq[[]item] {
	return func(yield func([]item) bool) {
		var more func(done, left []item) bool
		more = func(done, left []item) bool {
			if len(left) == 0 {
				return yield(slices.Clone(done))
			}
			for i, x := range left {
				if !more(append(slices.Clone(done), x), slices.Delete(slices.Clone(left), i, i+1)) {
					return false
				}
			}
			return true
		}
		more(nil, l)
	}
}

func TestChapterExamples(t *testing.T) { // P9.1, P9.2, P9.3, P9.4
	x, r := filled(item{1, 5, 9}, item{2, 3, 7}, item{3, 5, 7})
	if !slices.Equal(x.Ids(), []int{2, 1, 3}) {
		t.Errorf("by keys: %v", x.Ids())
	}
	for _, k := range []uint64{4, 5} {
		if id, is := x.Least(k); id != 2 || !is {
			t.Errorf("least of keys up to %d: %d %v", k, id, is)
		}
	}
	if id, is := x.Within(7); id != 2 || !is {
		t.Errorf("within 7: %d %v", id, is)
	}
	if id, is := x.Within(6); id != 0 || is {
		t.Errorf("within 6: %d %v", id, is)
	}
	holds(t, x, r)
}

// isEmpty checks that a tree tells of nothing, whether somebody made it or not.
func isEmpty(t *testing.T, x *Tree) {
	t.Helper()
	if x.Len() != 0 || len(x.Ids()) != 0 {
		t.Errorf("%d in it: %v", x.Len(), x.Ids())
	}
	if id, is := x.First(); id != 0 || is {
		t.Errorf("first is %d %v", id, is)
	}
	if v, is := x.Lowest(); v != 0 || is {
		t.Errorf("lowest is %d %v", v, is)
	}
	for _, n := range []uint64{0, 1, 7, top} {
		if id, is := x.Least(n); id != 0 || is {
			t.Errorf("least of keys up to %d is %d %v", n, id, is)
		}
		if id, is := x.Within(n); id != 0 || is {
			t.Errorf("first within %d is %d %v", n, id, is)
		}
	}
	for _, id := range []int{0, 1, -1, math.MaxInt, math.MinInt} {
		if key, value, is := x.Get(id); key != 0 || value != 0 || is {
			t.Errorf("%d is %d %d %v", id, key, value, is)
		}
		if x.Drop(id) {
			t.Errorf("%d was in", id)
		}
	}
}

func TestNew(t *testing.T) { // P9.1
	x, y := New(), New()
	if x == nil || y == nil || x == y {
		t.Fatal("no tree of its own")
	}
	isEmpty(t, x)
	holds(t, x, nil)
	x.Put(1, 2, 3)
	isEmpty(t, y)
	holds(t, y, nil)
}

func TestNobodyMade(t *testing.T) { // P9.1, P9.2, P9.3, P9.4, P9.5
	for _, x := range []*Tree{nil, {}} {
		for range 2 {
			isEmpty(t, x)
			x.Put(1, 2, 3)
			x.Put(0, 0, 0)
			x.Put(1, 2, 3)
			isEmpty(t, x)
			y := x.Copy()
			isEmpty(t, y)
			y.Put(1, 2, 3)
			isEmpty(t, y)
		}
	}
	var none *Tree
	if none.Copy() != nil {
		t.Error("a copy of nil")
	}
}

func TestOne(t *testing.T) { // P9.1, P9.2, P9.3, P9.4
	for _, id := range []int{0, 1, -1, 7, math.MaxInt, math.MinInt} {
		for _, key := range []uint64{0, 1, 5, 1 << 63, top} {
			for _, value := range []uint64{0, 1, 9, 1 << 63, top} {
				x, r := filled(item{id, key, value})
				holds(t, x, r)
				if !x.Drop(id) || x.Drop(id) {
					t.Errorf("%d: not dropped once", id)
				}
				isEmpty(t, x)
				holds(t, x, nil)
			}
		}
	}
}

func TestPutTwice(t *testing.T) { // P9.1, P9.7
	for _, again := range []item{
		{2, 30, 7},  // the same
		{2, 35, 7},  // with another key
		{2, 99, 7},  // which is behind all others
		{2, 0, 7},   // or ahead of them
		{2, 50, 7},  // or another one's
		{2, 30, 8},  // with another value
		{2, 30, 0},  // which is the least
		{2, 30, 5},  // or another one's
		{2, 30, 99}, // or the greatest
		{2, 99, 99}, // with both
		{2, 0, 0},
		{2, 7, 30},
		{2, top, top},
	} {
		x, r := filled(item{1, 50, 9}, item{2, 30, 7}, item{3, 50, 7}, item{4, 10, 20}, item{5, 90, 5})
		x.Put(again.id, again.key, again.value)
		r = r.put(again)
		holds(t, x, r)
		if x.Len() != 5 {
			t.Errorf("%v: %d in it", again, x.Len())
		}
		if key, value, is := x.Get(2); key != again.key || value != again.value || !is {
			t.Errorf("%v: %d %d %v", again, key, value, is)
		}
		x.Put(2, 30, 7) // as it was
		holds(t, x, r.put(item{2, 30, 7}))
		if !x.Drop(2) || x.Drop(2) {
			t.Errorf("%v: not dropped once", again)
		}
		holds(t, x, r.drop(2))
	}
}

func TestPutAsItIs(t *testing.T) { // P9.7: nothing is made anew for it
	l := some(rand.New(rand.NewSource(7)), 30)
	x, r := filled(l...)
	for _, i := range l {
		if made := testing.AllocsPerRun(5, func() { x.Put(i.id, i.key, i.value) }); made != 0 {
			t.Errorf("%v: %v made", i, made)
		}
	}
	holds(t, x, r)
}

func TestEachPutTwice(t *testing.T) { // P9.7: whichever it is, as it was put in last
	chance := rand.New(rand.NewSource(9))
	for n := 1; n < 24; n++ {
		l := some(chance, n)
		x, r := filled(l...)
		for _, i := range l {
			i.key, i.value = uint64(chance.Intn(n)), uint64(chance.Intn(n))
			x.Put(i.id, i.key, i.value)
			r = r.put(i)
			holds(t, x, r)
		}
	}
}

func TestPutAndDropped(t *testing.T) { // P9.7: the others are as they were
	chance := rand.New(rand.NewSource(97))
	for n := range 24 {
		x, r := filled(some(chance, n)...)
		for key := range uint64(n + 2) {
			for _, value := range []uint64{0, uint64(n / 4), top} {
				x.Put(999, key, value)
				holds(t, x, r.put(item{999, key, value}))
				if !x.Drop(999) {
					t.Errorf("%v: wasn't in", r)
				}
				holds(t, x, r)
			}
		}
	}
}

func TestDropAbsent(t *testing.T) { // P9.1
	x, r := filled(item{1, 50, 9}, item{-2, 30, 7}, item{50, 9, 1}, item{0, 7, 30})
	for _, id := range []int{2, -1, 3, 30, 9, 7, 51, 49, math.MaxInt, math.MinInt} {
		if x.Drop(id) {
			t.Errorf("%d was in", id)
		}
	}
	holds(t, x, r)
}

func TestGetAbsent(t *testing.T) { // P9.1: what isn't in has no key, though others have 0 for all
	x, r := filled(item{0, 0, 5}, item{1, 0, 6}, item{3, 2, 0})
	for _, id := range []int{2, -1, 5, 6, math.MaxInt, math.MinInt} {
		if key, value, is := x.Get(id); key != 0 || value != 0 || is {
			t.Errorf("%d is %d %d %v", id, key, value, is)
		}
	}
	x.Drop(0)
	if key, value, is := x.Get(0); key != 0 || value != 0 || is {
		t.Errorf("0 is %d %d %v", key, value, is)
	}
	holds(t, x, r.drop(0))
}

func TestOneKey(t *testing.T) { // P9.2, P9.3, P9.4: by ids then
	x, r := filled(item{5, 7, 3}, item{-3, 7, 9}, item{0, 7, 4}, item{math.MaxInt, 7, 1}, item{math.MinInt, 7, 12}, item{2, 7, 3})
	if want := []int{math.MinInt, -3, 0, 2, 5, math.MaxInt}; !slices.Equal(x.Ids(), want) {
		t.Errorf("by keys: %v", x.Ids())
	}
	if id, is := x.First(); id != math.MinInt || !is {
		t.Errorf("first is %d %v", id, is)
	}
	if id, is := x.Least(6); id != 0 || is {
		t.Errorf("least of keys up to 6 is %d %v", id, is)
	}
	if id, is := x.Least(7); id != math.MaxInt || !is {
		t.Errorf("least of keys up to 7 is %d %v", id, is)
	}
	for v, want := range map[uint64]int{1: math.MaxInt, 2: math.MaxInt, 3: 2, 4: 0, 8: 0, 9: -3, 12: math.MinInt} {
		if id, is := x.Within(v); id != want || !is {
			t.Errorf("first within %d is %d %v", v, id, is)
		}
	}
	holds(t, x, r)
	for _, i := range r {
		x.Drop(i.id)
		r = r.drop(i.id)
		holds(t, x, r)
	}
}

func TestOneValue(t *testing.T) { // P9.3, P9.4: the least id counts, though it isn't the first one by keys
	x, r := filled(item{5, 1, 4}, item{3, 2, 4}, item{4, 3, 4}, item{-1, 4, 4}, item{9, 5, 4}, item{-7, 6, 4}, item{0, 7, 4})
	for k, want := range map[uint64]int{1: 5, 2: 3, 3: 3, 4: -1, 5: -1, 6: -7, 7: -7, top: -7} {
		if id, is := x.Least(k); id != want || !is {
			t.Errorf("least of keys up to %d is %d %v", k, id, is)
		}
	}
	for _, v := range []uint64{4, 5, top} {
		if id, is := x.Within(v); id != 5 || !is {
			t.Errorf("first within %d is %d %v", v, id, is)
		}
	}
	if id, is := x.Within(3); id != 0 || is {
		t.Errorf("first within 3 is %d %v", id, is)
	}
	holds(t, x, r)
	for _, id := range []int{-7, 5, -1, 3, 0, 4, 9} {
		x.Drop(id)
		r = r.drop(id)
		holds(t, x, r)
	}
}

func TestOfTheSameValueInWhateverOrder(t *testing.T) { // P9.3: whichever stands above the other
	for l := range orders([]item{{1, 3, 2}, {2, 1, 2}, {3, 2, 2}, {0, 4, 9}, {-5, 0, 3}}) {
		x, r := filled(l...)
		if id, is := x.Least(top); id != 1 || !is {
			t.Errorf("%v: %d %v", l, id, is)
		}
		if id, is := x.Least(2); id != 2 || !is {
			t.Errorf("%v: %d %v", l, id, is)
		}
		holds(t, x, r)
	}
}

func TestEdgesOfNumbers(t *testing.T) { // P9.1, P9.2, P9.3, P9.4: 0, and the greatest numbers
	x, r := filled(item{1, 0, top}, item{2, top, 0}, item{3, 0, 0}, item{4, top, top}, item{math.MinInt, top, 0}, item{math.MaxInt, 0, top})
	if want := []int{1, 3, math.MaxInt, math.MinInt, 2, 4}; !slices.Equal(x.Ids(), want) {
		t.Errorf("by keys: %v", x.Ids())
	}
	for k, want := range map[uint64]int{0: 3, 1: 3, top - 1: 3, top: math.MinInt} {
		if id, is := x.Least(k); id != want || !is {
			t.Errorf("least of keys up to %d is %d %v", k, id, is)
		}
	}
	for v, want := range map[uint64]int{0: 3, 1: 3, top - 1: 3, top: 1} {
		if id, is := x.Within(v); id != want || !is {
			t.Errorf("first within %d is %d %v", v, id, is)
		}
	}
	holds(t, x, r)
}

func TestLeastExamples(t *testing.T) { // P9.3
	x, r := filled(item{1, 50, 9}, item{2, 30, 7}, item{3, 50, 7}, item{4, 10, 20}, item{5, 90, 3}, item{6, 95, 40})
	for _, k := range []uint64{0, 1, 9} { // below all keys
		if id, is := x.Least(k); id != 0 || is {
			t.Errorf("least of keys up to %d is %d %v", k, id, is)
		}
	}
	for k, want := range map[uint64]int{
		10: 4, 11: 4, 29: 4, // between two
		30: 2, 49: 2, 50: 2, 51: 2, 89: 2,
		90: 5, 94: 5, 95: 5, 96: 5, top: 5, // above all
	} {
		if id, is := x.Least(k); id != want || !is {
			t.Errorf("least of keys up to %d is %d %v", k, id, is)
		}
	}
	if v, is := x.Lowest(); v != 3 || !is {
		t.Errorf("lowest is %d %v", v, is)
	}
	x.Drop(5)
	if v, is := x.Lowest(); v != 7 || !is {
		t.Errorf("lowest is %d %v", v, is)
	}
	holds(t, x, r.drop(5))
}

func TestWithinExamples(t *testing.T) { // P9.4
	x, r := filled(item{1, 50, 9}, item{2, 30, 7}, item{3, 50, 7}, item{4, 10, 20}, item{5, 90, 3}, item{6, 95, 40})
	for _, v := range []uint64{0, 1, 2} { // below all values
		if id, is := x.Within(v); id != 0 || is {
			t.Errorf("first within %d is %d %v", v, id, is)
		}
	}
	for v, want := range map[uint64]int{
		3: 5, 4: 5, 6: 5, // at the least one
		7: 2, 8: 2, 9: 2, 19: 2, // at one in the midst
		20: 4, 39: 4, 40: 4, 41: 4, top: 4, // above all
	} {
		if id, is := x.Within(v); id != want || !is {
			t.Errorf("first within %d is %d %v", v, id, is)
		}
	}
	holds(t, x, r)
}

func TestIdsAreTheCallersOwn(t *testing.T) { // P9.2
	x, r := filled(item{1, 5, 9}, item{2, 3, 7}, item{3, 5, 7})
	l, other := x.Ids(), x.Ids()
	for i := range l {
		l[i] = 77
	}
	l = append(l, 8)
	if !slices.Equal(other, []int{2, 1, 3}) {
		t.Errorf("%v", other)
	}
	holds(t, x, r)
	x.Put(4, 0, 0)
	if !slices.Equal(other, []int{2, 1, 3}) || !slices.Equal(l, []int{77, 77, 77, 8}) {
		t.Errorf("%v %v", other, l)
	}
}

func TestCopyIsItsOwn(t *testing.T) { // P9.5
	chance := rand.New(rand.NewSource(95))
	for _, n := range []int{0, 1, 2, 3, 7, 20, 33} {
		l := some(chance, n)
		x, r := filled(l...)
		y := x.Copy()
		if y == x {
			t.Fatal("the same tree")
		}
		holds(t, y, r)
		mine, others := r, r
		for i, a := range append(l, item{777, 3, 1}, item{778, 0, 0}) { // each is changed while the other isn't
			anew := item{a.id, uint64(chance.Intn(n + 1)), uint64(chance.Intn(n + 1))}
			switch i % 4 {
			case 0:
				x.Put(anew.id, anew.key, anew.value)
				mine = mine.put(anew)
			case 1:
				y.Put(anew.id, anew.key, anew.value)
				others = others.put(anew)
			case 2:
				x.Drop(a.id)
				mine = mine.drop(a.id)
			case 3:
				y.Drop(a.id)
				others = others.drop(a.id)
			}
			holds(t, x, mine)
			holds(t, y, others)
		}
		z := y.Copy().Copy()
		for _, id := range y.Ids() {
			y.Drop(id)
		}
		isEmpty(t, y)
		holds(t, x, mine)
		holds(t, z, others)
	}
}

func TestAskingChangesNothing(t *testing.T) { // P9.1, P9.2, P9.3, P9.4, P9.5
	x, r := filled(some(rand.New(rand.NewSource(3)), 30)...)
	for range 3 {
		holds(t, x, r)
		holds(t, x.Copy(), r)
	}
}

func TestDroppedDownToNothing(t *testing.T) { // P9.1, P9.2, P9.3, P9.4, P9.7
	chance := rand.New(rand.NewSource(90))
	ways := map[string]func(ids []int) int{
		"the first":  func(ids []int) int { return ids[0] },
		"the last":   func(ids []int) int { return ids[len(ids)-1] },
		"the midst":  func(ids []int) int { return ids[len(ids)/2] },
		"either end": func(ids []int) int { return ids[(len(ids)%2)*(len(ids)-1)] },
		"some":       func(ids []int) int { return ids[chance.Intn(len(ids))] },
	}
	for name, which := range ways {
		for n := range 40 {
			x, r := filled(some(chance, n)...)
			for len(r) > 0 {
				id := which(x.Ids())
				if !x.Drop(id) || x.Drop(id) {
					t.Fatalf("%s of %v: %d not dropped once", name, r, id)
				}
				r = r.drop(id)
				holds(t, x, r)
			}
			isEmpty(t, x)
			x.Put(1, 2, 3) // it takes anew
			holds(t, x, row{{1, 2, 3}})
		}
	}
}

func TestAllOrdersOfFew(t *testing.T) { // P9.1, P9.7: in whatever order they come and go
	l := []item{{1, 5, 9}, {2, 3, 7}, {3, 5, 7}, {-4, 3, 9}, {5, 8, 0}}
	for n := range len(l) + 1 {
		for in := range orders(l[:n]) {
			x, r := filled(in...)
			holds(t, x, r)
			for _, a := range in {
				x.Drop(a.id)
				r = r.drop(a.id)
				holds(t, x, r)
			}
		}
	}
}

func TestHeldAgainstARow(t *testing.T) { // P9.1, P9.2, P9.3, P9.4, P9.7
	for seed := range int64(12) {
		chance := rand.New(rand.NewSource(seed))
		number := func() uint64 {
			if chance.Intn(8) == 0 {
				return []uint64{0, 1, 1 << 63, top - 1, top}[chance.Intn(5)]
			}
			return uint64(chance.Intn(12))
		}
		x, r := filled()
		for range 300 {
			id := chance.Intn(24) - 8
			_, is := r.get(id)
			if chance.Intn(3) == 0 {
				if x.Drop(id) != is {
					t.Fatalf("%v: %d was in: %v", r, id, is)
				}
				r = r.drop(id)
			} else {
				i := item{id, number(), number()}
				x.Put(i.id, i.key, i.value)
				r = r.put(i)
			}
			holds(t, x, r)
		}
	}
}

func TestNobodyIsLess(t *testing.T) { // P9.6, by its words, asked of the tree alone
	chance := rand.New(rand.NewSource(6))
	for n := range 60 {
		x, r := filled(some(chance, n)...)
		ids := x.Ids()
		for _, k := range turns(r, keyOf) {
			best, is := x.Least(k)
			bestKey, bestValue, in := x.Get(best)
			if is && (!in || bestKey > k) {
				t.Fatalf("%v: %d isn't of keys up to %d", r, best, k)
			}
			for _, id := range ids {
				if key, value, _ := x.Get(id); key <= k && (!is || value < bestValue || value == bestValue && id < best) {
					t.Fatalf("%v: up to %d %d is less than %d %v", r, k, id, best, is)
				}
			}
		}
		for _, v := range turns(r, valueOf) {
			first, is := x.Within(v)
			if _, value, in := x.Get(first); is && (!in || value > v) {
				t.Fatalf("%v: %d isn't within %d", r, first, v)
			}
			for _, id := range ids {
				if is && id == first {
					break
				}
				if _, value, _ := x.Get(id); value <= v {
					t.Fatalf("%v: %d, ahead of %d %v, is within %d", r, id, first, is, v)
				}
			}
		}
	}
}

func TestBothWays(t *testing.T) { // P9.8
	chance := rand.New(rand.NewSource(98))
	for n := 1; n < 80; n++ {
		x, r := filled(some(chance, n)...)
		for x.Len() > 0 {
			lowest, is := x.Lowest()
			if !is {
				t.Fatalf("%v: no lowest", r)
			}
			last := x.Ids()[x.Len()-1]
			greatest, _, _ := x.Get(last)
			for _, k := range []uint64{greatest, top} {
				least, is := x.Least(k)
				if _, value, _ := x.Get(least); !is || value != lowest {
					t.Fatalf("%v: least is %d of value %d, not %d", r, least, value, lowest)
				}
			}
			first, is := x.Within(lowest)
			i := slices.IndexFunc(x.Ids(), func(id int) bool {
				_, value, _ := x.Get(id)
				return value == lowest
			})
			if !is || first != x.Ids()[i] {
				t.Fatalf("%v: first within %d is %d %v", r, lowest, first, is)
			}
			x.Drop(first)
			r = r.drop(first)
		}
	}
}

func TestMany(t *testing.T) { // P9.1, P9.2, P9.3, P9.4: of a great many few are asked
	const n = 1 << 15
	chance := rand.New(rand.NewSource(15))
	x := New()
	values := make([]uint64, n)
	for _, i := range chance.Perm(n) { // the id i has the key i
		x.Put(i, uint64(n-i), 7)
		values[i] = chance.Uint64()
		x.Put(i, uint64(i), values[i])
	}
	if x.Len() != n {
		t.Fatalf("%d in it", x.Len())
	}
	least := 0
	for i, v := range values {
		if v < values[least] {
			least = i
		}
		if id, is := x.Least(uint64(i)); id != least || !is {
			t.Fatalf("least of keys up to %d is %d, not %d", i, id, least)
		}
		if id, is := x.Within(values[least]); id != least || !is {
			t.Fatalf("first within %d is %d, not %d", values[least], id, least)
		}
	}
	if v, is := x.Lowest(); v != values[least] || !is {
		t.Errorf("lowest is %d %v", v, is)
	}
	for i := range n {
		if id, is := x.First(); id != i || !is || !x.Drop(i) {
			t.Fatalf("first is %d %v, not %d", id, is, i)
		}
	}
	isEmpty(t, x)
}
