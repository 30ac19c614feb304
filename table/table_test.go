package table

import (
	"iter"
	"maps"
	"math"
	"math/bits"
	"math/rand"
	"reflect"
	"slices"
	"testing"

	"distributary/api"
)

// item is an id and its value.
type item struct {
	id    int
	value string
}

// row holds ids and values in no order: what a table is held against.
type row []item

func (r row) get(id int) (string, bool) {
	for _, x := range r {
		if x.id == id {
			return x.value, true
		}
	}
	return "", false
}

// may is whether an id may be, by the chapter's words.
func may(id int) bool { return id >= 1 && id <= 65535 }

// put is the row with that id and value, and what putting it is told.
func (r row) put(id int, v string) (row, api.Errno) {
	if !may(id) {
		return r, api.ErrArg
	}
	if _, is := r.get(id); is {
		return r, api.ErrTwice
	}
	return append(slices.Clone(r), item{id, v}), api.OK
}

// drop is the row without that id, and what dropping it is told.
func (r row) drop(id int) (row, api.Errno) {
	if !may(id) {
		return r, api.ErrArg
	}
	less := slices.DeleteFunc(slices.Clone(r), func(x item) bool { return x.id == id })
	if len(less) == len(r) {
		return r, api.ErrAbsent
	}
	return less, api.OK
}

// set is the row with that value for that id, and what setting it is told.
func (r row) set(id int, v string) (row, api.Errno) {
	less, e := r.drop(id)
	if e != api.OK {
		return r, e
	}
	return append(less, item{id, v}), api.OK
}

// next is the least id above that one, and whether there is one.
func (r row) next(id int) (int, bool) {
	least, is := 0, false
	for _, x := range r {
		if x.id > id && (!is || x.id < least) {
			least, is = x.id, true
		}
	}
	return least, is
}

// inOrder are all items, by ids.
func (r row) inOrder() []item {
	l := slices.Clone(r)
	slices.SortFunc(l, func(a, b item) int { return a.id - b.id })
	return l
}

func (r row) ids() []int {
	var l []int
	for _, x := range r.inOrder() {
		l = append(l, x.id)
	}
	return l
}

// told is what a two-valued call told, to be held against what another one tells.
func told[T comparable](a T, is bool) func(T, bool) bool {
	return func(b T, too bool) bool { return a == b && is == too }
}

// edges are ids at which answers may turn: those at the ends of all ids and of pages, and such as may not be, among them such as would be others, were their upper or lower bits gone.
func edges() []int {
	l := []int{math.MinInt, math.MinInt + 1, -1 << 32, 7 - 1<<32, -1 << 16, 7 - 1<<16, -129, -128, -127, -65, -64, -63, -7, -2, -1, 0, 1, 2, 7, 300}
	for _, first := range []int{64, 128, 192, 256, 512, 1024, 4096, 32768, 65536 - 128, 65536 - 64, 65536} {
		l = append(l, first-2, first-1, first, first+1)
	}
	return append(l, 1<<16+7, 1<<16+64, 1<<17, 1<<17-1, 1<<32, 1<<32+7, math.MaxInt-1, math.MaxInt)
}

// those are such edges as may be, or may not.
func those(are bool) []int {
	return slices.DeleteFunc(edges(), func(id int) bool { return may(id) != are })
}

// all are what one told who went over all.
func all(told iter.Seq2[int, string]) []item {
	var l []item
	for id, v := range told {
		l = append(l, item{id, v})
	}
	return l
}

// holds checks that a table answers as the row does, whatever is asked, those ids and all edges, and that it stands as it should.
func holds(t *testing.T, x *Table[string], r row, ids ...int) {
	t.Helper()
	if n := x.Len(); n != len(r) {
		t.Fatalf("%v: %d of them", r.inOrder(), n)
	}
	if l := x.Ids(); !slices.Equal(l, r.ids()) {
		t.Fatalf("%v: ids are %v", r.inOrder(), l)
	}
	if l := all(x.Each()); !slices.Equal(l, r.inOrder()) {
		t.Fatalf("%v: all are %v", r.inOrder(), l)
	}
	for _, x := range r {
		ids = append(ids, x.id-1, x.id, x.id+1)
	}
	for _, id := range append(ids, edges()...) {
		if v, is := x.Get(id); !told(v, is)(r.get(id)) {
			t.Fatalf("%v: %d is %q %v", r.inOrder(), id, v, is)
		}
		if n, is := x.Next(id); !told(n, is)(r.next(id)) {
			t.Fatalf("%v: behind %d is %d %v", r.inOrder(), id, n, is)
		}
	}
	stands(t, x)
}

// stands checks that no page is empty, that each has the values of those there alone, and that their numbers rise.
func stands[V any](t *testing.T, x *Table[V]) {
	t.Helper()
	if !slices.Equal(x.numbers, slices.Sorted(maps.Keys(x.pages))) {
		t.Fatalf("numbers are %v, not %v", x.numbers, slices.Sorted(maps.Keys(x.pages)))
	}
	many := 0
	for number, p := range x.pages {
		if len(p.values) == 0 || len(p.values) != bits.OnesCount64(p.there) {
			t.Fatalf("page %d has %d values of %x", number, len(p.values), p.there)
		}
		many += len(p.values)
	}
	if many != x.many {
		t.Fatalf("%d values, not %d", many, x.many)
	}
}

// both are a table and its row, of which each step is held against the other.
type both struct {
	t *testing.T
	x *Table[string]
	r row
}

func start(t *testing.T) *both {
	t.Helper()
	b := &both{t: t, x: New[string]()}
	holds(t, b.x, b.r)
	return b
}

// filled are such a table, and its row, with those ids, each with a value of its own.
func filled(t *testing.T, ids ...int) *both {
	t.Helper()
	b := start(t)
	for _, id := range ids {
		b.put(id, of(id), api.OK)
	}
	return b
}

// of is a value that no other id has.
func of(id int) string { return string(rune('a'+id%26)) + string(rune('A'+id/26)) }

// as has the row be that one, and holds what was told, and the table, against it.
func (b *both) as(what string, id int, e, want api.Errno, r row) {
	b.t.Helper()
	if e != want {
		b.t.Fatalf("%v: %s %d: %d, not %d", b.r.inOrder(), what, id, e, want)
	}
	b.r = r
	holds(b.t, b.x, b.r, id-1, id, id+1)
}

// told wants that what is done by the table and by the row is told so.
func (b *both) told(what string, id int, e, want api.Errno) {
	b.t.Helper()
	if e != want {
		b.t.Fatalf("%s %d: %d, not %d", what, id, e, want)
	}
}

func (b *both) put(id int, v string, want api.Errno) {
	b.t.Helper()
	b.told("put", id, b.tryPut(id, v), want)
}

func (b *both) set(id int, v string, want api.Errno) {
	b.t.Helper()
	b.told("set", id, b.trySet(id, v), want)
}

func (b *both) drop(id int, want api.Errno) {
	b.t.Helper()
	b.told("drop", id, b.tryDrop(id), want)
}

func (b *both) tryPut(id int, v string) api.Errno {
	b.t.Helper()
	r, e := b.r.put(id, v)
	b.as("put", id, b.x.Put(id, v), e, r)
	return e
}

func (b *both) trySet(id int, v string) api.Errno {
	b.t.Helper()
	r, e := b.r.set(id, v)
	b.as("set", id, b.x.Set(id, v), e, r)
	return e
}

func (b *both) tryDrop(id int) api.Errno {
	b.t.Helper()
	r, e := b.r.drop(id)
	b.as("drop", id, b.x.Drop(id), e, r)
	return e
}

func (b *both) copy() *both { return &both{t: b.t, x: b.x.Copy(nil), r: slices.Clone(b.r)} }

func TestExample(t *testing.T) { // the chapter's own: P12.1, P12.3
	x := New[int]()
	for i, a := range []struct {
		id   int
		want api.Errno
	}{{7, api.OK}, {300, api.OK}, {7, api.ErrTwice}, {0, api.ErrArg}, {65536, api.ErrArg}} {
		if e := x.Put(a.id, i); e != a.want {
			t.Errorf("put %d: %d, not %d", a.id, e, a.want)
		}
	}
	for _, a := range []struct {
		id, next int
		is       bool
	}{{0, 7, true}, {7, 300, true}, {300, 0, false}} {
		if n, is := x.Next(a.id); n != a.next || is != a.is {
			t.Errorf("behind %d is %d %v", a.id, n, is)
		}
	}
}

func TestNew(t *testing.T) { // P12.1
	x, y := New[string](), New[string]()
	if x == nil || y == nil || x == y {
		t.Fatal("no table of its own")
	}
	holds(t, x, nil)
	if e := x.Put(1, "a"); e != api.OK {
		t.Fatal(e)
	}
	holds(t, x, row{{1, "a"}})
	holds(t, y, nil)
}

func TestNobodyMade(t *testing.T) { // P12.1, P12.2, P12.3, P12.4: whether the id may be or not
	for _, x := range []*Table[string]{nil, {}, new(Table[string])} {
		for range 2 { // whatever is put changes nothing
			for _, id := range edges() {
				if e := x.Put(id, "a"); e != api.ErrNil {
					t.Errorf("put %d: %d", id, e)
				}
				if e := x.Set(id, "a"); e != api.ErrNil {
					t.Errorf("set %d: %d", id, e)
				}
				if e := x.Drop(id); e != api.ErrNil {
					t.Errorf("drop %d: %d", id, e)
				}
				if v, is := x.Get(id); v != "" || is {
					t.Errorf("%d is %q", id, v)
				}
				if n, is := x.Next(id); n != 0 || is {
					t.Errorf("behind %d is %d", id, n)
				}
			}
			for id := range x.Each() {
				t.Errorf("%d is there", id)
			}
			if x.Len() != 0 || len(x.Ids()) != 0 {
				t.Errorf("%d of them: %v", x.Len(), x.Ids())
			}
			for _, own := range []func(string) string{nil, func(v string) string { t.Error("asked"); return v }} {
				if c := x.Copy(own); c != nil {
					t.Errorf("a copy: %v", c)
				}
			}
		}
	}
}

func TestWrongIds(t *testing.T) { // P12.1, P12.2, P12.6: ids that may not be, in tables of nobody, of few and of many
	tables := []*both{filled(t), filled(t, 1), filled(t, 7, 300), filled(t, 65535), filled(t, those(true)[:9]...)}
	for _, b := range tables {
		for _, id := range those(false) {
			b.put(id, "w", api.ErrArg)
			b.set(id, "w", api.ErrArg)
			b.drop(id, api.ErrArg)
			if v, is := b.x.Get(id); v != "" || is {
				t.Errorf("%d is %q", id, v)
			}
		}
	}
}

func TestOneId(t *testing.T) { // P12.1, P12.2, P12.3: each edge, alone, and dropped, and put anew
	for _, id := range those(true) {
		b := start(t)
		for _, v := range []string{"a", "b"} {
			b.set(id, "z", api.ErrAbsent)
			b.drop(id, api.ErrAbsent)
			b.put(id, v, api.OK)
			b.put(id, "z", api.ErrTwice)
			b.set(id, v+v, api.OK)
			b.set(id, v+v, api.OK) // as it is
			b.put(id, v+v, api.ErrTwice)
			b.drop(id, api.OK)
		}
	}
}

func TestAbsent(t *testing.T) { // P12.1, P12.2: one that isn't there, beside others on its page, or not
	b := filled(t, 1, 63, 65, 130, 65535)
	for _, id := range []int{2, 7, 62, 64, 66, 127, 128, 129, 131, 191, 192, 300, 65471, 65472, 65534} {
		b.set(id, "z", api.ErrAbsent)
		b.drop(id, api.ErrAbsent)
		if v, is := b.x.Get(id); v != "" || is {
			t.Errorf("%d is %q", id, v)
		}
	}
}

func TestEmptyValues(t *testing.T) { // P12.2: a zero value is one
	x := New[int]()
	for _, id := range []int{1, 64, 65535} {
		if e := x.Put(id, 0); e != api.OK {
			t.Fatal(e)
		}
		if v, is := x.Get(id); v != 0 || !is {
			t.Errorf("%d: %d %v", id, v, is)
		}
		if e := x.Put(id, 0); e != api.ErrTwice {
			t.Errorf("%d: %d", id, e)
		}
	}
	if x.Len() != 3 {
		t.Errorf("%d of them", x.Len())
	}
}

func TestPairs(t *testing.T) { // P12.5, P12.6: any two edges, whichever was put, or goes, first
	ids := those(true)
	for _, a := range ids {
		for _, z := range ids {
			if a == z {
				continue
			}
			b := filled(t, a, z)
			b.put(a, "w", api.ErrTwice)
			b.drop(a, api.OK)
			b.put(a, "y", api.OK)
			b.drop(z, api.OK)
			b.drop(a, api.OK)
		}
	}
}

func TestPageAnew(t *testing.T) { // P12.6: a page whose last id goes, and that is filled anew
	for _, number := range []int{0, 1, 2, 511, 512, 1022, 1023} {
		first := number * 64
		beside := slices.DeleteFunc([]int{first - 64, first - 1, first + 64, first + 127}, func(id int) bool { return !may(id) })
		b := filled(t, beside...)
		for round := range 3 {
			ids := slices.DeleteFunc([]int{first, first + 1, first + 31, first + 32, first + 62, first + 63}, func(id int) bool { return !may(id) })
			for i, id := range ids {
				b.put(id, of(id+i+round), api.OK)
			}
			if round == 1 {
				slices.Reverse(ids)
			}
			for _, id := range ids {
				b.drop(id, api.OK)
			}
			if !slices.Equal(b.x.Ids(), slices.Sorted(slices.Values(beside))) {
				t.Fatalf("%v are left", b.x.Ids())
			}
		}
	}
}

func TestFullPage(t *testing.T) { // P12.1, P12.7: each id of a page, and those beside it
	chance := rand.New(rand.NewSource(127))
	for _, first := range []int{0, 64, 65472} {
		b := start(t)
		var ids []int
		for id := first - 2; id < first+66; id++ {
			if may(id) {
				ids = append(ids, id)
			}
		}
		chance.Shuffle(len(ids), func(i, j int) { ids[i], ids[j] = ids[j], ids[i] })
		for _, id := range ids {
			b.put(id, of(id), api.OK)
		}
		for _, id := range ids {
			b.set(id, of(id)+"!", api.OK)
		}
		for _, id := range ids {
			b.drop(id, api.OK)
		}
	}
}

func TestAllIds(t *testing.T) { // P12.1 to P12.7: as many ids as there may be, in any order
	ids := rand.New(rand.NewSource(128)).Perm(api.MaxId)
	x := New[int]()
	for i, id := range ids {
		if e := x.Put(id+1, -id); e != api.OK || x.Len() != i+1 {
			t.Fatalf("put %d: %d, %d of them", id+1, e, x.Len())
		}
	}
	stands(t, x)
	if n := len(x.Ids()); n != api.MaxId {
		t.Fatalf("%d ids", n)
	}
	want := 1
	for id, v := range x.Each() {
		if n, is := x.Next(id - 1); id != want || v != 1-id || n != id || !is {
			t.Fatalf("%d is %d, %d is behind the one ahead", id, v, n)
		}
		want++
	}
	for _, id := range []int{-1, 0, api.MaxId + 1} {
		if e := x.Put(id, 1); e != api.ErrArg {
			t.Errorf("put %d: %d", id, e)
		}
	}
	for i, id := range ids {
		if e := x.Drop(id + 1); e != api.OK || x.Len() != api.MaxId-i-1 {
			t.Fatalf("drop %d: %d, %d of them", id+1, e, x.Len())
		}
		if e := x.Drop(id + 1); e != api.ErrAbsent {
			t.Fatalf("drop %d again: %d", id+1, e)
		}
	}
	stands(t, x)
	if n, is := x.Next(0); is || len(x.pages) != 0 {
		t.Errorf("%d is left, %d pages", n, len(x.pages))
	}
}

func TestNextOfAll(t *testing.T) { // P12.3: from whatever id on
	for _, ids := range [][]int{nil, {1}, {65535}, {1, 65535}, {7, 300}, {63, 64}, {64, 127, 128}, {1, 2, 3, 190, 191, 192, 193, 40000, 65471, 65472}} {
		b := filled(t, ids...)
		left := ids
		for id := -2; id <= api.MaxId+2; id++ {
			for len(left) > 0 && left[0] <= id {
				left = left[1:]
			}
			want := 0
			if len(left) > 0 {
				want = left[0]
			}
			if n, is := b.x.Next(id); n != want || is != (want > 0) {
				t.Fatalf("%v: behind %d is %d %v", ids, id, n, is)
			}
		}
	}
}

func TestNextGoesThrough(t *testing.T) { // P12.5
	chance := rand.New(rand.NewSource(125))
	for n := range 40 {
		b := filled(t, some(chance, n)...)
		var l []int
		for id, is := b.x.Next(0); is; id, is = b.x.Next(id) {
			l = append(l, id)
		}
		if !slices.Equal(l, b.r.ids()) {
			t.Fatalf("%v, not %v", l, b.r.ids())
		}
	}
}

// some are n ids, each of them once, many on the same page, in any order.
func some(chance *rand.Rand, n int) []int {
	var l []int
	for len(l) < n {
		if id := anyId(chance); may(id) && !slices.Contains(l, id) {
			l = append(l, id)
		}
	}
	return l
}

// anyId is one of some few pages' most often, of the edges, or of all.
func anyId(chance *rand.Rand) int {
	switch chance.Intn(8) {
	case 0:
		return edges()[chance.Intn(len(edges()))]
	case 1:
		return 1 + chance.Intn(api.MaxId)
	case 2:
		return api.MaxId - chance.Intn(70)
	default:
		return chance.Intn(200)
	}
}

func TestEachStops(t *testing.T) { // P12.3: at the first, in the midst, at the last, or never
	for _, ids := range [][]int{nil, {1}, {65535}, {7, 300}, {1, 2, 3}, {62, 63, 64, 65}, {1, 63, 64, 127, 128, 65471, 65472, 65535}} {
		b := filled(t, ids...)
		each := b.x.Each()
		for range 2 { // the same once more
			for stop := range len(ids) {
				var l []item
				for id, v := range each {
					l = append(l, item{id, v})
					if len(l) == stop+1 {
						break
					}
				}
				if !slices.Equal(l, b.r.inOrder()[:stop+1]) {
					t.Errorf("%v stopped at %d: %v", ids, stop, l)
				}
			}
			if l := all(each); !slices.Equal(l, b.r.inOrder()) {
				t.Errorf("%v: %v", ids, l)
			}
		}
		each(nil) // nobody to tell it to
		holds(t, b.x, b.r)
	}
}

func TestEachBegins(t *testing.T) { // P12.3: when one goes over it, not when one asks for it
	b := filled(t, 7)
	each := b.x.Each()
	b.put(300, "b", api.OK)
	b.set(7, "c", api.OK)
	if l := all(each); !slices.Equal(l, []item{{7, "c"}, {300, "b"}}) {
		t.Errorf("%v", l)
	}
	b.drop(7, api.OK)
	if l := all(each); !slices.Equal(l, []item{{300, "b"}}) {
		t.Errorf("%v", l)
	}
}

func TestEachMeanwhile(t *testing.T) { // P12.3: it tells what there is when an id's turn comes
	b := filled(t, 5, 63, 64, 300)
	var l []item
	for id, v := range b.x.Each() {
		l = append(l, item{id, v})
		switch id {
		case 5:
			b.drop(5, api.OK)
			b.drop(63, api.OK)
			b.put(4, "behind", api.OK)
		case 64:
			b.set(300, "set", api.OK)
			b.put(65535, "put", api.OK)
		}
	}
	if want := []item{{5, of(5)}, {64, of(64)}, {300, "set"}, {65535, "put"}}; !slices.Equal(l, want) {
		t.Errorf("%v, not %v", l, want)
	}
	for id := range b.x.Each() { // all go, one by one
		b.drop(id, api.OK)
	}
	holds(t, b.x, nil)
	b.put(1, "a", api.OK)
	for id := range b.x.Each() { // it ends, whatever is put
		b.x.Put(id+1, "a")
	}
	if b.x.Len() != api.MaxId {
		t.Errorf("%d of them", b.x.Len())
	}
}

func TestIdsAreTheCallers(t *testing.T) { // P12.3: whatever is done to them
	b := filled(t, 7, 300, 63, 64)
	l := b.x.Ids()
	l[0], l[3] = 999, 1
	l = append(l[:1], 5, 6)
	holds(t, b.x, b.r)
	l = b.x.Ids()
	b.drop(7, api.OK)
	b.put(8, "q", api.OK)
	if !slices.Equal(l, []int{7, 63, 64, 300}) {
		t.Errorf("%v", l)
	}
}

// twice is what own may be.
func twice(v string) string { return v + v }

func TestCopyOwn(t *testing.T) { // P12.4
	for n := range 20 {
		b := filled(t, some(rand.New(rand.NewSource(124)), n)...)
		var asked, want []string
		var r row
		for _, x := range b.r.inOrder() {
			want = append(want, x.value)
			r = append(r, item{x.id, twice(x.value)})
		}
		c := b.x.Copy(func(v string) string {
			asked = append(asked, v)
			return twice(v)
		})
		holds(t, c, r)
		holds(t, b.x, b.r)
		if !slices.Equal(asked, want) { // each once, by ids
			t.Errorf("asked of %v, not of %v", asked, want)
		}
		holds(t, b.x.Copy(nil), b.r)
		holds(t, c.Copy(nil), r)
	}
	if c := New[string]().Copy(twice); c == nil || c.Len() != 0 || c.Put(1, "a") != api.OK {
		t.Error("a copy of an empty table")
	}
}

func TestCopyChanged(t *testing.T) { // P12.4: the one while the other one isn't
	ids := []int{1, 7, 63, 64, 65, 300, 65472, 65535}
	for _, own := range []func(string) string{nil, func(v string) string { return v }} {
		for _, other := range []bool{false, true} {
			b := filled(t, ids...)
			c := &both{t: t, x: b.x.Copy(own), r: slices.Clone(b.r)}
			if c.x == b.x {
				t.Fatal("the same table")
			}
			if other {
				b, c = c, b
			}
			change := func(do func()) {
				do()
				holds(t, c.x, c.r)
			}
			for _, id := range ids {
				change(func() { b.set(id, "w", api.OK) })
			}
			for _, id := range []int{2, 62, 66, 128, 40000} {
				change(func() { b.put(id, "w", api.OK) })
			}
			for _, id := range b.x.Ids() {
				change(func() { b.drop(id, api.OK) })
			}
			for _, id := range []int{7, 8, 300, 65535} {
				change(func() { b.put(id, "v", api.OK) })
			}
			kept := slices.Clone(b.r)
			for _, id := range ids {
				c.drop(id, api.OK)
				holds(t, b.x, kept)
			}
		}
	}
}

func TestCopyOfShared(t *testing.T) { // P12.4: what values share, they share without own
	x := New[[]int]()
	for _, id := range []int{1, 64, 300} {
		x.Put(id, []int{id, id})
	}
	shared, apart := x.Copy(nil), x.Copy(slices.Clone)
	for _, v := range x.Each() {
		v[0] = -1
	}
	for _, id := range []int{1, 64, 300} {
		if v, _ := shared.Get(id); !slices.Equal(v, []int{-1, id}) {
			t.Errorf("%d shared: %v", id, v)
		}
		if v, _ := apart.Get(id); !slices.Equal(v, []int{id, id}) {
			t.Errorf("%d apart: %v", id, v)
		}
	}
}

func TestCopyOwnPanics(t *testing.T) { // P12.4: caught inside; the table stays as it was
	for at := range 4 {
		b := filled(t, 1, 64, 300, 65535)
		asked := 0
		c := b.x.Copy(func(v string) string {
			if asked == at {
				panic("no")
			}
			asked++
			return v + "!"
		})
		if c != nil {
			t.Errorf("at %d: a copy: %v", at, c.Ids())
		}
		holds(t, b.x, b.r)
	}
	if c := New[string]().Copy(func(string) string { panic("no") }); c == nil || c.Len() != 0 {
		t.Error("nothing was to be asked")
	}
}

func TestCopyOwnChanges(t *testing.T) { // P12.4: the copy is what the table was when that began
	b := filled(t, 1, 64, 300)
	r := slices.Clone(b.r)
	c := b.x.Copy(func(v string) string {
		for _, id := range b.x.Ids() {
			b.x.Drop(id)
		}
		b.x.Put(65535, "new")
		return v
	})
	holds(t, c, r)
	holds(t, b.x, row{{65535, "new"}})
}

// keeps checks a table of any kind of values.
func keeps[V any](t *testing.T, same func(a, b V) bool, a, b V) {
	t.Helper()
	x := New[V]()
	is := func(id int, want V) {
		t.Helper()
		if v, is := x.Get(id); !is || !same(v, want) {
			t.Errorf("%d is %v %v, not %v", id, v, is, want)
		}
	}
	if x.Put(1, a) != api.OK || x.Put(64, b) != api.OK || x.Put(63, a) != api.OK || x.Put(63, b) != api.ErrTwice {
		t.Errorf("not put")
	}
	is(1, a)
	is(63, a)
	is(64, b)
	c := x.Copy(func(V) V { return b })
	if x.Set(1, b) != api.OK || x.Drop(63) != api.OK || x.Set(63, a) != api.ErrAbsent {
		t.Errorf("not set")
	}
	is(1, b)
	is(64, b)
	if v, is := x.Get(63); is || !reflect.ValueOf(&v).Elem().IsZero() {
		t.Errorf("63 is %v", v)
	}
	x = c
	is(1, b)
	is(63, b)
	is(64, b)
	stands(t, x)
}

// equal is how most kinds of values are held against each other.
func equal[V comparable](a, b V) bool { return a == b }

func TestKinds(t *testing.T) { // P12.1, P12.2, P12.4: tables of several kinds of values
	keeps(t, equal, 1, 0)
	keeps(t, equal, "a", "")
	keeps(t, equal, 1.5, math.Inf(-1))
	keeps(t, equal, true, false)
	keeps(t, equal, struct{}{}, struct{}{})
	keeps(t, equal, [100]int{99: 1}, [100]int{1})
	keeps(t, equal, api.Spec{Id: 7, Leaf: true}, api.Spec{Parent: 7})
	keeps(t, equal, new(int), nil)
	keeps(t, equal, any(1), any("b"))
	keeps(t, equal, api.ErrArg, api.OK)
	keeps(t, slices.Equal, []int{1, 2}, nil)
	keeps(t, maps.Equal, map[int]int{1: 2}, map[int]int{})
	keeps(t, func(a, b func() int) bool { return a() == b() }, func() int { return 1 }, func() int { return 2 })
	keeps(t, equal, New[int](), New[int]())
}

// orders goes over all orders of the ids.
func orders(l []int) iter.Seq[[]int] {
	return func(yield func([]int) bool) {
		var more func(done, left []int) bool
		more = func(done, left []int) bool {
			if len(left) == 0 {
				return yield(slices.Clone(done))
			}
			for i, x := range left {
				if !more(append(slices.Clone(done), x), slices.Delete(slices.Clone(left), i, i+1)) {
					return false
				}
			}
			return true
		}
		more(nil, l)
	}
}

func TestAllOrders(t *testing.T) { // P12.6: few ids, put and dropped in each order
	ids := []int{1, 63, 64, 65535}
	for in := range orders(ids) {
		for out := range orders(ids) {
			b := filled(t, in...)
			for _, id := range out {
				b.drop(id, api.OK)
			}
		}
	}
}

// insides are all that a table keeps, as it stands.
func insides(x *Table[string]) (map[int]page[string], []int) {
	pages := map[int]page[string]{}
	for number, p := range x.pages {
		pages[number] = page[string]{there: p.there, values: slices.Clone(p.values)}
	}
	return pages, slices.Clone(x.numbers)
}

func TestPutAndGone(t *testing.T) { // P12.6: all is as it was
	chance := rand.New(rand.NewSource(126))
	for n := range 30 {
		b := filled(t, some(chance, n)...)
		pages, numbers := insides(b.x)
		as := func(what string, id int) {
			t.Helper()
			if p, n := insides(b.x); !reflect.DeepEqual(p, pages) || !slices.Equal(n, numbers) {
				t.Fatalf("%v: %s %d: %v", b.r.inOrder(), what, id, p)
			}
		}
		for _, id := range some(chance, 30) {
			if b.tryPut(id, "w") == api.OK {
				b.set(id, "v", api.OK)
				b.drop(id, api.OK)
			}
			as("put and gone", id)
			if _, is := b.x.Get(id); !is { // what is refused changes nothing
				b.set(id, "w", api.ErrAbsent)
				b.drop(id, api.ErrAbsent)
			}
			as("refused", id)
		}
	}
}

func TestGoneIsNotKept(t *testing.T) { // P12.1: a value that is gone stands nowhere any more
	x := New[*int]()
	for id := 64; id < 128; id++ {
		x.Put(id, new(int))
	}
	for id := 65; id < 128; id++ {
		x.Drop(id)
	}
	values := x.pages[1].values
	for i, v := range values[:cap(values)] {
		if i > 0 && v != nil {
			t.Fatalf("value %d is kept", i)
		}
	}
	x.Drop(64)
	if len(x.pages) != 0 {
		t.Error("its page is kept")
	}
}

func TestWhateverOrder(t *testing.T) { // P12.1 to P12.7: behind each step as a row has it
	chance := rand.New(rand.NewSource(12))
	for round := range 12 {
		b := start(t)
		puts := 1 + round%9 // of ten steps
		for step := range 150 {
			id, v := anyId(chance), of(step)
			if len(b.r) > 0 && chance.Intn(2) == 0 {
				id = b.r[chance.Intn(len(b.r))].id
			}
			switch {
			case chance.Intn(10) < puts:
				b.tryPut(id, v)
			case chance.Intn(3) == 0:
				b.trySet(id, v)
			default:
				b.tryDrop(id)
			}
			if chance.Intn(30) == 0 {
				b = b.copy()
			}
		}
	}
}

func TestValuesStay(t *testing.T) { // P12.7: as put or set last, whatever becomes of others
	chance := rand.New(rand.NewSource(129))
	x, last := New[int](), map[int]int{}
	for step := range 200000 {
		id, e := 1+chance.Intn(600), api.OK
		_, is := last[id]
		wants := map[bool]api.Errno{true: api.OK, false: api.ErrAbsent}[is]
		switch chance.Intn(4) {
		case 0:
			e = x.Drop(id)
			delete(last, id)
		case 1:
			if e = x.Set(id, step); is {
				last[id] = step
			}
		default:
			if wants = api.ErrTwice; !is {
				wants, last[id] = api.OK, step
			}
			e = x.Put(id, step)
		}
		if e != wants {
			t.Fatalf("at %d: %d: %d, not %d", step, id, e, wants)
		}
		if step%1000 == 0 && !maps.Equal(maps.Collect(x.Each()), last) {
			t.Fatalf("at %d: %v", step, maps.Collect(x.Each()))
		}
		id = 1 + chance.Intn(600)
		want, is := last[id]
		if v, too := x.Get(id); v != want || too != is || x.Len() != len(last) {
			t.Fatalf("at %d: %d is %d %v, not %d %v", step, id, v, too, want, is)
		}
	}
	stands(t, x)
}
