package rbtree

import (
	"iter"
	"math"
	"math/rand"
	"slices"
	"strconv"
	"strings"
	"testing"

	"distributary/api"
)

const top = math.MaxUint64

func of(number uint64, id int) Key { return Key{Number: number, Id: id} }

// told is a value's own summary: its key's number and its text.
func told(k Key, v string) string { return strconv.FormatUint(k.Number, 10) + v + " " }

func behind(a, b string) string { return a + b }

func equal(a, b string) bool { return a == b }

// texts is an empty tree whose summaries are all that is told of values, one behind the other: they hang on the order, but not on how parts are put together.
func texts() *Tree[string, string] { return New(told, behind) }

// item is a value and its key.
type item struct {
	k Key
	v string
}

// row holds values in order: what a tree is held against.
type row []item

// ahead is whether a key is ahead of another one, by DOC.md's words.
func ahead(a, b Key) bool { return a.Number < b.Number || a.Number == b.Number && a.Id < b.Id }

// at is where the key is or would be, and whether it is there.
func (r row) at(k Key) (int, bool) {
	i := 0
	for i < len(r) && ahead(r[i].k, k) {
		i++
	}
	return i, i < len(r) && r[i].k == k
}

func (r row) put(k Key, v string) (row, api.Errno) {
	i, is := r.at(k)
	if is {
		return r, api.ErrTwice
	}
	return slices.Insert(slices.Clone(r), i, item{k, v}), api.OK
}

func (r row) drop(k Key) (row, api.Errno) {
	i, is := r.at(k)
	if !is {
		return r, api.ErrAbsent
	}
	return slices.Delete(slices.Clone(r), i, i+1), api.OK
}

func (r row) get(k Key) (string, bool) {
	i, is := r.at(k)
	if !is {
		return "", false
	}
	return r[i].v, true
}

// upto is what is told of those with numbers at most that, and whether there are any.
func (r row) upto(number uint64) (string, bool) {
	all, is := "", false
	for _, x := range r {
		if x.k.Number <= number {
			all, is = all+told(x.k, x.v), true
		}
	}
	return all, is
}

// find is the first key of whose value that is told.
func (r row) find(part string) (Key, bool) {
	for _, x := range r {
		if strings.Contains(told(x.k, x.v), part) {
			return x.k, true
		}
	}
	return Key{}, false
}

// low is whether so many nodes may stand in one way down of a tree of so many: at most twice the logarithm of those and 1; neither reading of where the 1 is added is broken.
func low(height, many int) bool {
	if many == 0 {
		return height == 0
	}
	both := float64(many) * float64(many)
	more := float64(many+1) * float64(many+1)
	return math.Exp2(float64(height)) <= more && math.Exp2(float64(height-1)) <= both
}

// longest is how many nodes there are on the longest way down, gone down way by way.
func longest(n *node[string, string], above int) int {
	if n == nil {
		return above
	}
	return max(longest(n.left, above+1), longest(n.right, above+1))
}

// isWell is whether the tree is well, by the chapter's words.
func isWell(x *Tree[string, string]) bool {
	ways := map[int]bool{}
	is := true
	var down func(n *node[string, string], blacks int, above *node[string, string]) string
	down = func(n *node[string, string], blacks int, above *node[string, string]) string {
		if n == nil {
			ways[blacks] = true
			return ""
		}
		if n.red && (above == nil || above.left != n || above.red) {
			is = false
		}
		if !n.red {
			blacks++
		}
		all := down(n.left, blacks, n) + told(n.key, n.value) + down(n.right, blacks, n)
		if all != n.sum {
			is = false
		}
		return all
	}
	down(x.root, 0, nil)
	var keys []Key
	for k := range x.Each() {
		keys = append(keys, k)
	}
	for i := range keys {
		if i > 0 && !ahead(keys[i-1], keys[i]) {
			is = false
		}
	}
	return is && len(ways) == 1
}

// items are what the tree goes over.
func items(x *Tree[string, string]) row {
	var r row
	for k, v := range x.Each() {
		r = append(r, item{k, v})
	}
	return r
}

// numbers are those at which a row's Upto turns, and those beside them.
func (r row) numbers() []uint64 {
	l := []uint64{0, 1, 7, top - 1, top}
	for _, x := range r {
		l = append(l, x.k.Number, x.k.Number-1, x.k.Number+1)
	}
	slices.Sort(l)
	return slices.Compact(l)
}

// holds checks that a tree is well, and holds what a row does.
func holds(t *testing.T, x *Tree[string, string], r row) {
	t.Helper()
	if !isWell(x) || !x.Well(equal) {
		t.Fatalf("%v: not well", r)
	}
	if x.Len() != len(r) || !slices.Equal(items(x), r) {
		t.Fatalf("%d: %v, not %v", x.Len(), items(x), r)
	}
	if h := x.Height(); h != longest(x.root, 0) || !low(h, len(r)) {
		t.Fatalf("%v: %d high", r, h)
	}
	first, is := x.First()
	if is != (len(r) > 0) || is && first != r[0].k || !is && first != (Key{}) {
		t.Fatalf("%v: first %v %v", r, first, is)
	}
	all, is := x.All()
	if want, any := r.upto(top); all != want || is != any {
		t.Fatalf("%v: all %q %v", r, all, is)
	}
	for _, n := range r.numbers() {
		sum, is := x.Upto(n)
		if want, any := r.upto(n); sum != want || is != any {
			t.Fatalf("%v up to %d: %q %v", r, n, sum, is)
		}
	}
}

// answers checks what a tree has by keys, and what it finds.
func answers(t *testing.T, x *Tree[string, string], r row, keys []Key) {
	t.Helper()
	for _, k := range keys {
		v, is := x.Get(k)
		if want, any := r.get(k); v != want || is != any {
			t.Fatalf("%v: %v is %q %v", r, k, v, is)
		}
	}
	for _, part := range []string{"a", "b", "c", "d", "1", "7a", "1z", "~"} {
		k, is := x.Find(func(a string) bool { return strings.Contains(a, part) })
		if want, any := r.find(part); k != want || is != any {
			t.Fatalf("%v: %q at %v %v", r, part, k, is)
		}
	}
}

// filled is a tree with such keys, put in that order, and the row of them; each has a text of its own.
func filled(t *testing.T, keys ...Key) (*Tree[string, string], row) {
	t.Helper()
	x, r := texts(), row{}
	for _, k := range keys {
		v := text(k)
		if e := x.Put(k, v); e != api.OK {
			t.Fatalf("%v: %d", k, e)
		}
		r, _ = r.put(k, v)
	}
	return x, r
}

// text is a key's own, whatever else is there.
func text(k Key) string { return string(rune('a'+k.Number%26)) + strconv.Itoa(k.Id) }

// numbered are keys of the numbers 1 to n, in order.
func numbered(n int) []Key {
	var l []Key
	for i := range n {
		l = append(l, of(uint64(i+1), i%3))
	}
	return l
}

// orders goes over all orders of the numbers below n.
func orders(n int) iter.Seq[[]int] {
	return func(yield func([]int) bool) {
		l := make([]int, 0, n)
		var more func() bool
		more = func() bool {
			if len(l) == n {
				return yield(slices.Clone(l))
			}
			for i := range n {
				if slices.Contains(l, i) {
					continue
				}
				l = append(l, i)
				if !more() {
					return false
				}
				l = l[:len(l)-1]
			}
			return true
		}
		more()
	}
}

func TestChapterExamples(t *testing.T) { // P8.1, P8.2, P8.3
	x := New(func(k Key, v int) int { return v }, func(a, b int) int { return min(a, b) })
	for i, k := range []Key{of(5, 1), of(3, 2), of(5, 0)} {
		if e := x.Put(k, 9-i); e != api.OK {
			t.Errorf("%v: %d", k, e)
		}
	}
	var keys []Key
	var values []int
	for k, v := range x.Each() {
		keys, values = append(keys, k), append(values, v)
	}
	if !slices.Equal(keys, []Key{of(3, 2), of(5, 0), of(5, 1)}) || !slices.Equal(values, []int{8, 7, 9}) {
		t.Errorf("%v %v", keys, values)
	}
	if least, is := x.Upto(4); least != 8 || !is {
		t.Errorf("up to 4: %d %v", least, is)
	}
	if least, is := x.Upto(5); least != 7 || !is {
		t.Errorf("up to 5: %d %v", least, is)
	}
}

func TestLess(t *testing.T) { // P8.2
	rising := []Key{
		of(0, math.MinInt), of(0, -1), of(0, 0), of(0, 1), of(0, math.MaxInt),
		of(1, -7), of(1, 0), of(3, 9), of(4, 1), of(4, 2),
		of(math.MaxInt64, 5), of(1<<63, 4), of(top-1, math.MaxInt), of(top, math.MinInt), of(top, math.MaxInt),
	}
	for i, a := range rising {
		for j, b := range rising {
			if a.Less(b) != (i < j) {
				t.Errorf("%v ahead of %v: %v", a, b, a.Less(b))
			}
		}
	}
}

func TestNew(t *testing.T) { // P8.1
	if New[string](nil, behind) != nil {
		t.Error("a tree without of")
	}
	if New(told, nil) != nil {
		t.Error("a tree without join")
	}
	if New[string, string](nil, nil) != nil {
		t.Error("a tree without both")
	}
	x, y := texts(), texts()
	if x == nil || y == nil || x == y {
		t.Fatal("no tree of its own")
	}
	x.Put(of(1, 1), "a")
	holds(t, y, nil)
}

// isEmpty checks that a tree tells of nothing, whether somebody made it or not.
func isEmpty(t *testing.T, x *Tree[string, string]) {
	t.Helper()
	if v, is := x.Get(of(0, 0)); v != "" || is {
		t.Errorf("got %q %v", v, is)
	}
	if x.Len() != 0 || x.Height() != 0 {
		t.Errorf("%d in it, %d high", x.Len(), x.Height())
	}
	if k, is := x.First(); k != (Key{}) || is {
		t.Errorf("first %v %v", k, is)
	}
	for k := range x.Each() {
		t.Errorf("went over %v", k)
	}
	if a, is := x.All(); a != "" || is {
		t.Errorf("all %q %v", a, is)
	}
	for _, n := range []uint64{0, 1, top} {
		if a, is := x.Upto(n); a != "" || is {
			t.Errorf("up to %d: %q %v", n, a, is)
		}
	}
	if k, is := x.Find(func(string) bool { return true }); k != (Key{}) || is {
		t.Errorf("found %v %v", k, is)
	}
	if k, is := x.Find(nil); k != (Key{}) || is {
		t.Errorf("found %v %v by nothing", k, is)
	}
	x.Each()(nil)
}

func TestNobodyMade(t *testing.T) { // P8.1, P8.2, P8.3, P8.4, P8.5
	for _, x := range []*Tree[string, string]{nil, {}} {
		isEmpty(t, x)
		if e := x.Put(of(1, 1), "a"); e != api.ErrNil {
			t.Errorf("put: %d", e)
		}
		if e := x.Drop(of(1, 1)); e != api.ErrNil {
			t.Errorf("dropped: %d", e)
		}
		if e := x.Drop(Key{}); e != api.ErrNil {
			t.Errorf("dropped: %d", e)
		}
		if x.Well(equal) || x.Well(nil) {
			t.Error("nobody's is well")
		}
		if x.Copy() != nil {
			t.Error("a copy of nobody's")
		}
		isEmpty(t, x)
	}
}

func TestEmpty(t *testing.T) { // P8.1, P8.2, P8.3, P8.4, P8.5
	x := texts()
	for range 2 {
		isEmpty(t, x)
		holds(t, x, nil)
		if e := x.Drop(of(1, 1)); e != api.ErrAbsent {
			t.Errorf("dropped: %d", e)
		}
		if !x.Well(nil) || !x.Well(func(a, b string) bool { return false }) {
			t.Error("not well, though there is no summary")
		}
		y := x.Copy()
		isEmpty(t, y)
		if y == x || y.Put(of(1, 1), "a") != api.OK || y.Len() != 1 || x.Len() != 0 {
			t.Error("the copy isn't one of its own")
		}
		if x.Put(of(1, 1), "a") != api.OK || x.Drop(of(1, 1)) != api.OK { // empty again
			t.Error("put and dropped")
		}
	}
}

func TestOne(t *testing.T) { // P8.1, P8.2, P8.3
	for _, k := range []Key{{}, of(7, 1), of(top, math.MaxInt), of(top, math.MinInt), of(1, -1)} {
		x, r := filled(t, k)
		holds(t, x, r)
		answers(t, x, r, []Key{k, {}, of(7, 1), of(7, 2), of(8, 1)})
		if x.Height() != 1 {
			t.Errorf("%d high", x.Height())
		}
		if x.Drop(k) != api.OK {
			t.Errorf("%v: not dropped", k)
		}
		isEmpty(t, x)
	}
}

func TestPutTwice(t *testing.T) { // P8.1
	keys := []Key{of(5, 1), of(3, 2), of(5, 0), of(9, 9), of(3, 1), of(5, 2)}
	x, r := filled(t, keys...)
	for _, k := range keys {
		if e := x.Put(k, "other"); e != api.ErrTwice {
			t.Errorf("%v: %d", k, e)
		}
	}
	holds(t, x, r) // the values that were there first
	for _, k := range keys {
		x.Drop(k)
		r, _ = r.drop(k)
		if e := x.Put(k, "anew"); e != api.OK {
			t.Errorf("%v: %d", k, e)
		}
		r, _ = r.put(k, "anew")
		if v, is := x.Get(k); v != "anew" || !is {
			t.Errorf("%v: %q", k, v)
		}
		holds(t, x, r)
	}
}

func TestDropAbsent(t *testing.T) { // P8.1
	x, r := filled(t, of(5, 1), of(3, 2), of(5, 3), of(9, 9))
	for _, k := range []Key{of(5, 0), of(5, 2), of(5, 4), of(3, 1), of(4, 1), of(0, 0), of(top, 0), of(9, -9), of(1, 5)} {
		if e := x.Drop(k); e != api.ErrAbsent {
			t.Errorf("%v: %d", k, e)
		}
		if v, is := x.Get(k); v != "" || is {
			t.Errorf("%v: %q %v", k, v, is)
		}
	}
	holds(t, x, r)
	if x.Drop(of(5, 1)) != api.OK || x.Drop(of(5, 1)) != api.ErrAbsent || x.Len() != 3 {
		t.Error("dropped twice")
	}
}

func TestOneNumberManyIds(t *testing.T) { // P8.1, P8.2, P8.3
	var keys []Key
	for _, id := range []int{0, 5, -3, math.MaxInt, math.MinInt, 1, -1, 9} {
		keys = append(keys, of(7, id))
	}
	x, r := filled(t, keys...)
	x.Put(of(6, 9), "b")
	r, _ = r.put(of(6, 9), "b")
	x.Put(of(8, -9), "c")
	r, _ = r.put(of(8, -9), "c")
	holds(t, x, r)
	answers(t, x, r, append(keys, of(7, 2), of(6, 0), of(8, 0)))
	if a, is := x.Upto(6); a != "6b " || !is {
		t.Errorf("%q", a)
	}
	if a, _ := x.Upto(7); strings.Count(a, " ") != 9 {
		t.Errorf("%q", a)
	}
	for _, k := range keys {
		x.Drop(k)
		r, _ = r.drop(k)
		holds(t, x, r)
	}
}

func TestZeroValues(t *testing.T) { // P8.1: a value that is there, though it is like none
	x := texts()
	x.Put(of(1, 1), "")
	if v, is := x.Get(of(1, 1)); v != "" || !is {
		t.Errorf("%q %v", v, is)
	}
	y := New(func(Key, struct{}) string { return "" }, behind)
	y.Put(Key{}, struct{}{})
	if a, is := y.All(); a != "" || !is {
		t.Errorf("%q %v", a, is)
	}
	if a, is := y.Upto(0); a != "" || !is {
		t.Errorf("%q %v", a, is)
	}
	if k, is := y.First(); k != (Key{}) || !is {
		t.Errorf("%v %v", k, is)
	}
	if k, is := y.Find(func(a string) bool { return a == "" }); k != (Key{}) || !is {
		t.Errorf("%v %v", k, is)
	}
}

func TestEachStops(t *testing.T) { // P8.2
	x, r := filled(t, numbered(20)...)
	each := x.Each()
	for stop := range 21 {
		var seen row
		for k, v := range each {
			if len(seen) == stop {
				break
			}
			seen = append(seen, item{k, v})
		}
		if !slices.Equal(seen, r[:stop]) {
			t.Errorf("up to %d: %v", stop, seen)
		}
	}
	asked := 0
	each(func(Key, string) bool { asked++; return asked < 7 })
	if asked != 7 {
		t.Errorf("asked %d times", asked)
	}
	asked = 0
	each(func(Key, string) bool { asked++; return true })
	if asked != 20 {
		t.Errorf("asked %d times", asked)
	}
}

func TestEachWhileItChanges(t *testing.T) { // P8.2: over what is there when that begins
	x, r := filled(t, numbered(30)...)
	each := x.Each()
	x.Put(of(31, 0), "a")
	r, _ = r.put(of(31, 0), "a")
	var seen row
	for k, v := range each {
		seen = append(seen, item{k, v})
		if e := x.Drop(k); e != api.OK {
			t.Errorf("%v: %d", k, e)
		}
		x.Put(of(k.Number+100, 0), "new")
	}
	if !slices.Equal(seen, r) {
		t.Errorf("%v, not %v", seen, r)
	}
	if x.Len() != 31 || !isWell(x) {
		t.Errorf("%d in it", x.Len())
	}
	for k := range x.Each() {
		if k.Number <= 100 {
			t.Errorf("%v is there", k)
		}
	}
}

func TestEachInEach(t *testing.T) { // P8.2
	x, _ := filled(t, numbered(9)...)
	pairs := 0
	for a := range x.Each() {
		for b := range x.Each() {
			if b.Number > a.Number {
				break
			}
			pairs++
		}
	}
	if pairs != 45 {
		t.Errorf("%d pairs", pairs)
	}
}

func TestUptoExamples(t *testing.T) { // P8.3
	x, _ := filled(t, of(30, 1), of(10, 2), of(20, 3), of(20, 1), of(40, 0), of(top, 0))
	for n, want := range map[uint64]string{
		0:       "",
		9:       "", // below all
		10:      "10k2 ",
		11:      "10k2 ", // between two
		19:      "10k2 ",
		20:      "10k2 20u1 20u3 ",
		30:      "10k2 20u1 20u3 30e1 ",
		39:      "10k2 20u1 20u3 30e1 ",
		40:      "10k2 20u1 20u3 30e1 40o0 ",
		top - 1: "10k2 20u1 20u3 30e1 40o0 ",
	} {
		if a, is := x.Upto(n); a != want || is != (want != "") {
			t.Errorf("%d: %q %v", n, a, is)
		}
	}
	all, _ := x.All()
	if a, is := x.Upto(top); a != all || !is || strings.Count(a, " ") != 6 {
		t.Errorf("%q, not %q", a, all)
	}
	x.Drop(of(top, 0))
	all, _ = x.All()
	if a, is := x.Upto(41); a != all || !is { // above all
		t.Errorf("%q, not %q", a, all)
	}
}

func TestUptoTakesFewParts(t *testing.T) { // P8.3: the summaries that are there are used
	joined := 0
	x := New(func(k Key, v int) int { return v }, func(a, b int) int { joined++; return a + b })
	for i := range 4096 {
		x.Put(of(uint64(i), 0), i)
	}
	for _, n := range []uint64{0, 1, 7, 1000, 2047, 2048, 4095, top} {
		joined = 0
		want := min(n, 4095) * (min(n, 4095) + 1) / 2
		if a, is := x.Upto(n); a != int(want) || !is {
			t.Errorf("%d: %d", n, a)
		}
		if joined > 48 {
			t.Errorf("%d: %d joins", n, joined)
		}
		joined = 0
		if x.All(); joined != 0 {
			t.Errorf("all: %d joins", joined)
		}
	}
}

func TestFind(t *testing.T) { // P8.4
	x := New(func(k Key, v int) int { return v }, func(a, b int) int { return max(a, b) })
	values := []int{3, 9, 1, 9, 5, 12, 0, 12, 2, 7, 1}
	for _, i := range []int{5, 2, 9, 0, 7, 10, 3, 1, 8, 4, 6} {
		x.Put(of(uint64(i), -i), values[i])
	}
	for least, want := range map[int]int{0: 0, 3: 0, 4: 1, 9: 1, 10: 5, 12: 5} { // the first, in the midst
		k, is := x.Find(func(a int) bool { return a >= least })
		if !is || k != of(uint64(want), -want) {
			t.Errorf("at least %d: %v %v", least, k, is)
		}
	}
	if k, is := x.Find(func(a int) bool { return a >= 13 }); is || k != (Key{}) { // nothing
		t.Errorf("%v %v", k, is)
	}
	if k, is := x.Find(nil); is || k != (Key{}) {
		t.Errorf("%v %v", k, is)
	}
	x.Put(of(11, -11), 20) // the last
	if k, is := x.Find(func(a int) bool { return a >= 13 }); !is || k != of(11, -11) {
		t.Errorf("%v %v", k, is)
	}
}

func TestFindEach(t *testing.T) { // P8.4: whichever it is, of trees of all sizes
	for n := range 40 {
		x, r := filled(t, numbered(n)...)
		for _, want := range r {
			part := " " + told(want.k, want.v)
			k, is := x.Find(func(a string) bool { return strings.Contains(" "+a, part) })
			if k != want.k || !is {
				t.Errorf("of %d: %v, not %v", n, k, want.k)
			}
		}
		if k, is := x.Find(func(string) bool { return false }); is || k != (Key{}) {
			t.Errorf("of %d: %v", n, k)
		}
		k, is := x.Find(func(string) bool { return true })
		if first, any := x.First(); k != first || is != any {
			t.Errorf("of %d: %v %v", n, k, is)
		}
	}
}

func TestFindAsksFew(t *testing.T) { // P8.4: not one by one
	x := New(func(k Key, v int) int { return v }, func(a, b int) int { return max(a, b) })
	for i := range 4096 {
		x.Put(of(uint64(i), 0), i)
	}
	for _, least := range []int{0, 1, 1000, 2048, 4094, 4095} {
		asked := 0
		k, is := x.Find(func(a int) bool { asked++; return a >= least })
		if !is || k.Number != uint64(least) || asked > 80 {
			t.Errorf("%d: %v, asked %d times", least, k, asked)
		}
	}
}

func TestFindOfNobodysOwn(t *testing.T) { // P8.4: what isn't ok of its own isn't told, though a summary is
	x, _ := filled(t, numbered(9)...)
	if k, is := x.Find(func(a string) bool { return strings.Count(a, " ") > 1 }); is || k != (Key{}) {
		t.Errorf("%v %v", k, is)
	}
}

func TestHeight(t *testing.T) { // P8.5, P8.6
	for n, want := range []int{0, 1, 2, 2, 3} { // there is no other way to stand for so few
		for in := range orders(n) {
			x := texts()
			for _, i := range in {
				x.Put(of(uint64(i), 0), "a")
			}
			if x.Height() != want {
				t.Errorf("%v: %d high", in, x.Height())
			}
		}
	}
	for n := range 300 {
		x, _ := filled(t, numbered(n)...)
		if x.Height() != longest(x.root, 0) || !low(x.Height(), n) {
			t.Errorf("%d: %d high", n, x.Height())
		}
	}
	crooked := above(2, false, leaf(1, false), above(9, false, above(5, false, nil, leaf(7, false)), nil))
	x := &Tree[string, string]{of: told, join: behind, root: crooked, many: 5}
	if x.Height() != 4 {
		t.Errorf("a crooked way: %d high", x.Height())
	}
}

// leaf is a node without others, with its own summary.
func leaf(number uint64, red bool) *node[string, string] { return above(number, red, nil, nil) }

// above is a node above those, with its parts' summary.
func above(number uint64, red bool, left, right *node[string, string]) *node[string, string] {
	n := &node[string, string]{key: of(number, 0), value: "a", red: red, left: left, right: right}
	n.sum = texts().total(n, left, right)
	return n
}

func TestWellOfBrokenOnes(t *testing.T) { // P8.5
	wrong := above(2, false, leaf(1, false), leaf(3, false))
	wrong.sum = "1a 2a "
	swapped := above(2, false, leaf(1, false), leaf(3, false))
	swapped.sum = "2a 1a 3a "
	below := above(2, false, leaf(1, false), leaf(3, false))
	below.left.sum, below.sum = "", "2a 3a " // what is above it is its parts'
	again := above(2, false, leaf(1, false), leaf(2, false))
	other := above(2, false, leaf(1, false), leaf(2, false))
	other.right.key.Id = 1
	other.right.sum, other.sum = "2a ", "1a 2a 2a "
	for _, x := range []struct {
		name string
		root *node[string, string]
		many int
		is   bool
	}{
		{"one", leaf(1, false), 1, true},
		{"two", above(2, false, leaf(1, true), nil), 2, true},
		{"three", above(2, false, leaf(1, false), leaf(3, false)), 3, true},
		{"five", above(4, false, above(2, true, leaf(1, false), leaf(3, false)), leaf(5, false)), 5, true},
		{"one number, two ids", other, 3, true},
		{"a red root", leaf(1, true), 1, false},
		{"a red one right", above(1, false, nil, leaf(2, true)), 2, false},
		{"red ones left and right", above(2, false, leaf(1, true), leaf(3, true)), 3, false},
		{"red ones left and right, further up", above(4, false, above(2, true, leaf(1, false), leaf(3, false)), above(6, true, leaf(5, false), leaf(7, false))), 7, false},
		{"a red one below a red one", above(3, false, above(2, true, leaf(1, true), nil), nil), 3, false},
		{"more black ones left", above(2, false, leaf(1, false), nil), 2, false},
		{"more black ones right", above(1, false, nil, leaf(2, false)), 2, false},
		{"more black ones left, further up", above(4, false, above(2, false, leaf(1, false), leaf(3, false)), leaf(5, false)), 5, false},
		{"more black ones left, further down", above(4, false, above(2, false, leaf(1, false), nil), leaf(5, false)), 4, false},
		{"right isn't behind", above(3, false, leaf(1, false), leaf(2, false)), 3, false},
		{"left isn't ahead", above(1, false, leaf(2, true), nil), 2, false},
		{"below left isn't ahead", above(4, false, above(2, true, leaf(1, false), leaf(9, false)), leaf(5, false)), 5, false},
		{"one key twice", again, 3, false},
		{"a summary of less", wrong, 3, false},
		{"a summary in another order", swapped, 3, false},
		{"a wrong summary further down", below, 3, false},
		{"fewer than there should be", leaf(1, false), 2, false},
		{"none where there should be one", nil, 1, false},
	} {
		tree := &Tree[string, string]{of: told, join: behind, root: x.root, many: x.many}
		if is := tree.Well(equal); is != x.is {
			t.Errorf("%s: %v", x.name, is)
		}
	}
}

func TestWellOfSummaries(t *testing.T) { // P8.5, without looking into the tree
	more := 0
	x := New(func(k Key, v int) int { return v + more }, func(a, b int) int { return max(a, b) })
	same := func(a, b int) bool { return a == b }
	for i := range 20 {
		x.Put(of(uint64(i), 0), i)
		if !x.Well(same) {
			t.Errorf("%d: not well", i)
		}
		more = 1
		if x.Well(same) {
			t.Errorf("%d: well, though of tells something else", i)
		}
		more = 0
		if x.Well(func(a, b int) bool { return false }) || x.Well(nil) {
			t.Errorf("%d: well, though no summaries are the same", i)
		}
	}
	deep := &[]int{5}[0] // a value that somebody changes behind the tree's back
	y := New(func(k Key, v *int) int { return *v }, func(a, b int) int { return a + b })
	for i := range 7 {
		one := i
		y.Put(of(uint64(i), 0), &one)
	}
	y.Put(of(3, 3), deep)
	if !y.Well(same) {
		t.Error("not well")
	}
	*deep = 6
	if y.Well(same) {
		t.Error("well, though a value isn't what it was")
	}
}

func TestWellAsksAllSummaries(t *testing.T) { // P8.5
	x, _ := filled(t, numbered(30)...)
	for no := range 30 {
		asked := 0
		if x.Well(func(a, b string) bool { asked++; return a == b && asked != no+1 }) {
			t.Errorf("well, though the %d. isn't", no)
		}
	}
	asked := 0
	if !x.Well(func(a, b string) bool { asked++; return a == b }) || asked != 30 {
		t.Errorf("asked %d times", asked)
	}
}

func TestCopyIsItsOwn(t *testing.T) { // P8.5
	for _, n := range []int{1, 2, 3, 7, 20, 65} {
		x, r := filled(t, numbered(n)...)
		y := x.Copy()
		holds(t, y, r)
		if y.Height() != x.Height() {
			t.Errorf("%d: %d high, not %d", n, y.Height(), x.Height())
		}
		for a := range x.root.each() {
			for b := range y.root.each() {
				if a == b {
					t.Fatalf("%d: %v is in both", n, a.key)
				}
			}
		}
		mine, others := r, r
		for i, k := range numbered(n) { // each is changed while the other isn't
			more := of(k.Number, 7)
			if i%2 == 0 {
				x.Drop(k)
				x.Put(more, "x")
				mine, _ = mine.drop(k)
				mine, _ = mine.put(more, "x")
			} else {
				y.Drop(k)
				y.Put(more, "y")
				others, _ = others.drop(k)
				others, _ = others.put(more, "y")
			}
			holds(t, x, mine)
			holds(t, y, others)
		}
		for k := range y.Each() {
			y.Drop(k)
		}
		holds(t, y, nil)
		holds(t, x, mine)
		z := x.Copy().Copy()
		for k := range x.Each() {
			x.Drop(k)
		}
		holds(t, z, mine)
	}
}

func TestAllOrdersOfFew(t *testing.T) { // P8.6, P8.7, P8.8
	for n := range 6 {
		keys := numbered(n)
		for in := range orders(n) {
			x, r := texts(), row{}
			for _, i := range in {
				x.Put(keys[i], text(keys[i]))
				r, _ = r.put(keys[i], text(keys[i]))
				holds(t, x, r)
			}
			for out := range orders(n) {
				y, left := x.Copy(), r
				for _, i := range out {
					if e := y.Drop(keys[i]); e != api.OK {
						t.Fatalf("%v %v: %d", in, out, e)
					}
					left, _ = left.drop(keys[i])
					holds(t, y, left)
				}
			}
		}
	}
}

func TestEachOneDropped(t *testing.T) { // P8.6, P8.7: of trees of all sizes, put in many orders
	chance := rand.New(rand.NewSource(8))
	for n := range 70 {
		for range 4 {
			keys := numbered(n)
			chance.Shuffle(n, func(i, j int) { keys[i], keys[j] = keys[j], keys[i] })
			x, r := filled(t, keys...)
			holds(t, x, r)
			for _, k := range keys {
				y := x.Copy()
				left, _ := r.drop(k)
				if e := y.Drop(k); e != api.OK {
					t.Fatalf("%v: %d", k, e)
				}
				holds(t, y, left)
			}
		}
	}
}

func TestDownToNothing(t *testing.T) { // P8.6, P8.7
	for _, n := range []int{1, 2, 3, 4, 5, 8, 15, 31, 40, 64, 100} {
		for name, next := range map[string]func(r row) Key{
			"from the left":   func(r row) Key { return r[0].k },
			"from the right":  func(r row) Key { return r[len(r)-1].k },
			"from the midst":  func(r row) Key { return r[len(r)/2].k },
			"from both ends":  func(r row) Key { return r[len(r)%2*(len(r)-1)].k },
			"from the thirds": func(r row) Key { return r[len(r)/3].k },
		} {
			up, down := numbered(n), numbered(n)
			slices.Reverse(down)
			for _, keys := range [][]Key{up, down} {
				x, r := filled(t, keys...)
				for len(r) > 0 {
					k := next(r)
					if e := x.Drop(k); e != api.OK {
						t.Fatalf("%d %s: %v: %d", n, name, k, e)
					}
					r, _ = r.drop(k)
					holds(t, x, r)
				}
				isEmpty(t, x)
				if x.Put(of(1, 1), "a") != api.OK || x.Len() != 1 || !isWell(x) {
					t.Errorf("%d %s: nothing goes in any more", n, name)
				}
			}
		}
	}
}

func TestTheRoot(t *testing.T) { // P8.6: what is dropped is what all hangs on
	for n := 1; n <= 50; n++ {
		x, r := filled(t, numbered(n)...)
		for x.Len() > 0 {
			k := x.root.key
			if e := x.Drop(k); e != api.OK {
				t.Fatalf("%v: %d", k, e)
			}
			r, _ = r.drop(k)
			holds(t, x, r)
		}
	}
}

func TestAsARow(t *testing.T) { // P8.1 to P8.4, P8.6, P8.7
	for seed := range 60 {
		chance := rand.New(rand.NewSource(int64(seed)))
		x, r := texts(), row{}
		wide := 2 + seed
		var keys []Key
		for range 30 {
			keys = append(keys, of(uint64(chance.Intn(wide)), chance.Intn(3)-1))
		}
		keys = append(keys, of(top, 0), of(top, -1), of(0, math.MinInt))
		for range 150 {
			k := keys[chance.Intn(len(keys))]
			v := string(rune('a' + chance.Intn(5)))
			var e, want api.Errno
			if chance.Intn(10) < 4+seed%3 {
				e = x.Put(k, v)
				r, want = r.put(k, v)
			} else {
				e = x.Drop(k)
				r, want = r.drop(k)
			}
			if e != want {
				t.Fatalf("%v: %d, not %d", k, e, want)
			}
			holds(t, x, r)
		}
		answers(t, x, r, keys)
	}
}

func TestWhateverOrder(t *testing.T) { // P8.8
	for in := range orders(6) {
		keys := []Key{of(2, 1), of(1, 9), of(2, 0), of(top, 3), of(0, 0), of(2, 2)}
		x := texts()
		for _, i := range in {
			x.Put(keys[i], text(keys[i]))
		}
		holds(t, x, row{{of(0, 0), "a0"}, {of(1, 9), "b9"}, {of(2, 0), "c0"}, {of(2, 1), "c1"}, {of(2, 2), "c2"}, {of(top, 3), text(of(top, 3))}})
	}
	chance := rand.New(rand.NewSource(8))
	keys := numbered(200)
	_, want := filled(t, keys...)
	for range 30 {
		chance.Shuffle(len(keys), func(i, j int) { keys[i], keys[j] = keys[j], keys[i] })
		x, _ := filled(t, keys...)
		holds(t, x, want)
		for i := range 5 { // what was put and dropped between leaves nothing behind
			x.Put(of(uint64(i*37), 99), "x")
		}
		for i := range 5 {
			x.Drop(of(uint64(i*37), 99))
		}
		holds(t, x, want)
	}
}

// turn is a summary whose join hangs on the order, and can't be told from the parts' alone in any other: what a value does to a number, times by and then more.
type turn struct{ times, more uint64 }

func TestSummariesInOrder(t *testing.T) { // P8.3, P8.8
	const prime = 1_000_003
	own := func(k Key, v uint64) turn { return turn{k.Number%prime + 2, v} }
	then := func(a, b turn) turn { return turn{a.times * b.times % prime, (a.more*b.times + b.more) % prime} }
	chance := rand.New(rand.NewSource(3))
	for range 30 {
		x := New(own, then)
		var keys []Key
		for i := range 100 {
			keys = append(keys, of(uint64(chance.Intn(40)), i))
		}
		for _, k := range keys {
			x.Put(k, uint64(k.Id)*7)
		}
		for i := range 50 {
			x.Drop(keys[i])
		}
		left := keys[50:]
		slices.SortFunc(left, func(a, b Key) int {
			if ahead(a, b) {
				return -1
			}
			return 1
		})
		for n := range uint64(41) {
			want := turn{1, 0}
			any := false
			for _, k := range left {
				if k.Number <= n {
					want, any = then(want, own(k, uint64(k.Id)*7)), true
				}
			}
			if a, is := x.Upto(n); is != any || is && a != want {
				t.Fatalf("%d: %v, not %v", n, a, want)
			}
		}
	}
}

func TestWhatPanics(t *testing.T) { // Rules: whatever is handed in, no call panics; and what is refused changes nothing
	bad := false
	turned := func(do func()) { bad = true; do(); bad = false }
	for _, which := range []string{"of", "join"} {
		x := New(func(k Key, v string) string {
			if bad && which == "of" {
				panic("of")
			}
			return told(k, v)
		}, func(a, b string) string {
			if bad && which == "join" {
				panic("join")
			}
			return a + b
		})
		r := row{}
		for _, k := range numbered(40) {
			x.Put(k, text(k))
			r, _ = r.put(k, text(k))
		}
		turned(func() {
			for i := range 41 {
				if e := x.Put(of(uint64(i), 9), "x"); e != api.ErrArg {
					t.Errorf("%s: put %d: %d", which, i, e)
				}
			}
			for _, k := range numbered(40) {
				if e := x.Drop(k); e != api.ErrArg {
					t.Errorf("%s: dropped %v: %d", which, k, e)
				}
			}
			if e := x.Put(of(1, 0), "x"); e != api.ErrTwice {
				t.Errorf("%s: %d", which, e)
			}
			if e := x.Drop(of(1, 9)); e != api.ErrAbsent {
				t.Errorf("%s: %d", which, e)
			}
			if a, is := x.Upto(40); a != "" || is {
				t.Errorf("%s: %q %v", which, a, is)
			}
			if x.Well(equal) {
				t.Errorf("%s: well", which)
			}
		})
		holds(t, x, r)
	}
	x, r := filled(t, numbered(40)...)
	if k, is := x.Find(func(string) bool { panic("ok") }); k != (Key{}) || is {
		t.Errorf("%v %v", k, is)
	}
	if x.Well(func(a, b string) bool { panic("same") }) {
		t.Error("well")
	}
	x.Each()(nil)
	holds(t, x, r)
}

func TestWhoeverComesBack(t *testing.T) { // Rules: what is handed in asks and changes the tree itself
	var x *Tree[string, string]
	calls := 0
	x = New(func(k Key, v string) string {
		calls++
		if calls == 7 {
			x.Put(of(100, 0), "late")
		}
		x.Get(k)
		return told(k, v)
	}, behind)
	for i := range 12 {
		if e := x.Put(of(uint64(i), 0), "a"); e != api.OK {
			t.Errorf("%d: %d", i, e)
		}
	}
	r := items(x)
	holds(t, x, r)
	for i := range 12 {
		if _, is := x.Get(of(uint64(i), 0)); !is {
			t.Errorf("%d isn't there", i)
		}
	}
	x.Find(func(a string) bool { x.Drop(of(3, 0)); return strings.Contains(a, "11a") })
	r, _ = r.drop(of(3, 0))
	holds(t, x, r)
}

func TestAskingChangesNothing(t *testing.T) { // P8.1 to P8.5
	x, r := filled(t, numbered(33)...)
	for range 3 {
		answers(t, x, r, numbered(40))
		x.Copy().Drop(of(1, 0))
		x.Height()
		holds(t, x, r)
	}
}

func TestMany(t *testing.T) { // P8.6, P8.7
	const n = 50_000
	x := New(func(k Key, v int) int { return v }, func(a, b int) int { return a + b })
	same := func(a, b int) bool { return a == b }
	for i := range n {
		if e := x.Put(of(uint64(i*7919%n), 0), 1); e != api.OK {
			t.Fatalf("%d: %d", i, e)
		}
	}
	if all, _ := x.All(); all != n || x.Len() != n || !x.Well(same) || !low(x.Height(), n) {
		t.Errorf("%d of %d, %d high", all, x.Len(), x.Height())
	}
	for i := range n {
		if a, is := x.Upto(uint64(i)); a != i+1 || !is {
			t.Fatalf("up to %d: %d", i, a)
		}
	}
	for i := range n - 100 {
		if e := x.Drop(of(uint64(i*31%n), 0)); e != api.OK {
			t.Fatalf("%d: %d", i, e)
		}
	}
	if all, _ := x.All(); all != 100 || x.Len() != 100 || !x.Well(same) || !low(x.Height(), 100) {
		t.Errorf("%d of %d, %d high", all, x.Len(), x.Height())
	}
}
