package hier

import (
	"fmt"
	"iter"
	"maps"
	"math"
	"math/rand"
	"slices"
	"testing"

	"distributary/api"
	"distributary/spec"
)

func straight(slope uint64) api.Curve { return api.Curve{Rest: slope} }

func bent(first, length, rest uint64) api.Curve {
	return api.Curve{First: first, Length: length, Rest: rest}
}

func anInner(id, parent int) api.Spec {
	return api.Spec{Id: id, Parent: parent, Share: straight(uint64(100 + id))}
}

func aLeaf(id, parent int) api.Spec {
	return api.Spec{Id: id, Parent: parent, Leaf: true, Real: straight(uint64(id)), Packets: 4, Bytes: 1000 + id}
}

// but is the spec, changed so.
func but(s api.Spec, change func(s *api.Spec)) api.Spec {
	change(&s)
	return s
}

// plain is classes in the order in which they came: a tree told by the chapter's words, one by one, without anything kept beside the specs.
type plain []api.Spec

func (p plain) get(id int) (api.Spec, bool) {
	for _, s := range p {
		if s.Id == id {
			return s, true
		}
	}
	return api.Spec{}, false
}

// depth is the chapter's: 1 of those under the link itself, one more than their parent's of others.
func (p plain) depth(s api.Spec) int {
	if s.Parent == 0 {
		return 1
	}
	above, _ := p.get(s.Parent)
	return 1 + p.depth(above)
}

// bears is whether that may be a Parent.
func (p plain) bears(id int) bool {
	if id == 0 {
		return true
	}
	s, is := p.get(id)
	return is && !s.Leaf && p.depth(s) < 8
}

// add is the chapter's 'A class may come'.
func (p plain) add(s api.Spec) (plain, api.Errno) {
	_, is := p.get(s.Id)
	for _, x := range []struct {
		holds bool
		e     api.Errno
	}{{spec.May(s) == 0, 130}, {len(p) < 64, 4}, {!is, 80}, {p.bears(s.Parent), 160}} {
		if !x.holds {
			return p, x.e
		}
	}
	return append(slices.Clone(p), s), 0
}

// change is the chapter's 'It may be changed'.
func (p plain) change(s api.Spec) (plain, api.Errno) {
	own, is := p.get(s.Id)
	if !is {
		return p, 81
	}
	own.Real, own.Share, own.Upper = s.Real, s.Share, s.Upper
	if spec.May(own) != 0 {
		return p, 130
	}
	q := slices.Clone(p)
	for i := range q {
		if q[i].Id == s.Id {
			q[i] = own
		}
	}
	return q, 0
}

// drop is the chapter's 'It may go'.
func (p plain) drop(id int) (plain, api.Errno) {
	if _, is := p.get(id); !is {
		return p, 81
	}
	if len(p.under(id)) > 0 {
		return p, 161
	}
	return slices.DeleteFunc(slices.Clone(p), func(s api.Spec) bool { return s.Id == id }), 0
}

// those are the Ids of such as are so, rising.
func (p plain) those(are func(s api.Spec) bool) []int {
	var l []int
	for _, s := range p {
		if are(s) {
			l = append(l, s.Id)
		}
	}
	slices.Sort(l)
	return l
}

func (p plain) ids() []int { return p.those(func(api.Spec) bool { return true }) }

func (p plain) under(id int) []int {
	return p.those(func(s api.Spec) bool { return s.Parent == id })
}

func (p plain) path(id int) []int {
	s, is := p.get(id)
	if !is {
		return nil
	}
	return append([]int{id}, p.path(s.Parent)...)
}

// below is whether that is the class, or one above it: the link itself is above all.
func (p plain) below(id int, s api.Spec) bool {
	above, is := p.get(s.Parent)
	return id == 0 || s.Id == id || is && p.below(id, above)
}

func (p plain) leaves(id int) []int {
	return p.those(func(s api.Spec) bool { return s.Leaf && p.below(id, s) })
}

// edges are Ids that no class has, or that some have.
func edges() []int {
	return []int{math.MinInt, math.MinInt + 1, -1 << 32, 1 - 1<<32, -1 << 16, 1 - 1<<16, -65, -64, -7, -2, -1, 0, 1, 2, 3, 7, 63, 64, 65, 300, 65534, 65535, 65536, 65537, 1<<17 + 1, 1 << 32, 1<<32 + 1, math.MaxInt - 1, math.MaxInt}
}

// same checks that a row is that one, and none where there is none.
func same(t *testing.T, p plain, what string, id int, l, want []int) {
	t.Helper()
	if !slices.Equal(l, want) || len(want) == 0 && l != nil {
		t.Fatalf("%v: %s %d: %#v, not %v", p, what, id, l, want)
	}
}

// holds checks that a tree answers as the plain one does, whatever is asked, and that it is a tree.
func holds(t *testing.T, x *Tree, p plain, ids ...int) {
	t.Helper()
	if n := x.Len(); n != len(p) {
		t.Fatalf("%v: %d of them", p, n)
	}
	same(t, p, "ids", 0, x.Ids(), p.ids())
	for _, s := range p {
		ids = append(ids, s.Id-1, s.Id, s.Id+1, s.Parent)
	}
	ids = append(ids, edges()...)
	slices.Sort(ids)
	for _, id := range slices.Compact(ids) {
		want, is := p.get(id)
		if s, too := x.Get(id); s != want || is != too {
			t.Fatalf("%v: %d is %v %v", p, id, s, too)
		}
		same(t, p, "under", id, x.Under(id), p.under(id))
		same(t, p, "path of", id, x.Path(id), p.path(id))
		same(t, p, "leaves of", id, x.Leaves(id), p.leaves(id))
	}
	isTree(t, x)
}

// isTree checks P16.5 of a tree, by what it tells alone, and that it keeps nothing of classes that aren't there.
func isTree(t *testing.T, x *Tree) {
	t.Helper()
	times := map[int]int{}
	for _, parent := range append(x.Ids(), 0) {
		for _, id := range x.Under(parent) {
			times[id]++
			if s, is := x.Get(id); !is || s.Parent != parent || s.Id != id {
				t.Fatalf("%d is under %d: %v %v", id, parent, s, is)
			}
		}
	}
	for _, id := range x.Ids() {
		s, _ := x.Get(id)
		above, is := x.Get(s.Parent)
		if s.Parent != 0 && (!is || above.Leaf) {
			t.Fatalf("%d stands under %v %v", id, above, is)
		}
		path := x.Path(id)
		if last, _ := x.Get(path[len(path)-1]); last.Parent != 0 || len(path) > api.MaxDepth {
			t.Fatalf("the path of %d is %v", id, path)
		}
		if times[id] != 1 {
			t.Fatalf("%d is under %d", id, times[id])
		}
		delete(times, id)
	}
	if len(times) != 0 || x.Len() > api.MaxClass {
		t.Fatalf("%d classes, beside them %v", x.Len(), times)
	}
	if kept := slices.Sorted(maps.Keys(x.classes)); !slices.Equal(kept, append([]int{0}, x.Ids()...)) {
		t.Fatalf("%v are kept", kept)
	}
}

// both are a tree and a plain one, of which each step is held against the other.
type both struct {
	t *testing.T
	x *Tree
	p plain
}

// grown are such ones, with those classes.
func grown(t *testing.T, l ...api.Spec) *both {
	t.Helper()
	b := &both{t: t, x: New()}
	holds(t, b.x, nil)
	for _, s := range l {
		p, want := b.p.add(s)
		if e := b.x.Add(s); e != api.OK || e != want {
			t.Fatalf("%v: add %v: %d, not %d", b.p, s, e, want)
		}
		b.p = p
	}
	holds(t, b.x, b.p)
	return b
}

// as has the plain one be that, and holds what was told, and the tree, against it.
func (b *both) as(what string, s api.Spec, e, want api.Errno, p plain) api.Errno {
	b.t.Helper()
	if e != want {
		b.t.Fatalf("%v: %s %v: %d, not %d", b.p, what, s, e, want)
	}
	b.p = p
	holds(b.t, b.x, b.p, s.Id-1, s.Id, s.Id+1, s.Parent)
	return e
}

func (b *both) tryAdd(s api.Spec) api.Errno {
	b.t.Helper()
	p, want := b.p.add(s)
	return b.as("add", s, b.x.Add(s), want, p)
}

func (b *both) tryChange(s api.Spec) api.Errno {
	b.t.Helper()
	p, want := b.p.change(s)
	return b.as("change", s, b.x.Change(s), want, p)
}

func (b *both) tryDrop(id int) api.Errno {
	b.t.Helper()
	p, want := b.p.drop(id)
	return b.as("drop", api.Spec{Id: id}, b.x.Drop(id), want, p)
}

// told wants that both told that.
func (b *both) told(what string, id int, e, want api.Errno) {
	b.t.Helper()
	if e != want {
		b.t.Fatalf("%v: %s %d: %d, not %d", b.p, what, id, e, want)
	}
}

func (b *both) add(s api.Spec, want api.Errno) {
	b.t.Helper()
	b.told("add", s.Id, b.tryAdd(s), want)
}

func (b *both) change(s api.Spec, want api.Errno) {
	b.t.Helper()
	b.told("change", s.Id, b.tryChange(s), want)
}

func (b *both) drop(id int, want api.Errno) {
	b.t.Helper()
	b.told("drop", id, b.tryDrop(id), want)
}

func (b *both) copy() *both { return &both{t: b.t, x: b.x.Copy(), p: slices.Clone(b.p)} }

// house are some classes: 10 has 5, 20 and the empty 30 under it, 20 has 4 and 6, 7 has 65535; 1 is a leaf under the link itself, 2 empty.
func house() []api.Spec {
	return []api.Spec{anInner(10, 0), aLeaf(5, 10), anInner(20, 10), aLeaf(6, 20), aLeaf(4, 20), aLeaf(1, 0), anInner(30, 10), anInner(7, 0), aLeaf(65535, 7), anInner(2, 0)}
}

// chain are n inner classes, each under the one ahead; the first one has the Id first.
func chain(first, n int) []api.Spec {
	var l []api.Spec
	for i := range n {
		s := anInner(first+i, first+i-1)
		if i == 0 {
			s.Parent = 0
		}
		l = append(l, s)
	}
	return l
}

// many are n leaves under the parent.
func many(first, n, parent int) []api.Spec {
	var l []api.Spec
	for i := range n {
		l = append(l, aLeaf(first+i, parent))
	}
	return l
}

// full are as many classes as there may be: a chain of all depths, 1 to 8, and leaves under the link itself and 3.
func full() []api.Spec {
	return slices.Concat(chain(1, 8), many(9, 30, 0), many(39, 26, 3))
}

// misshapen are specs of that Id and Parent, which may be, of which each is wrong in another way: of a shape, or by a curve.
func misshapen(id, parent int) []api.Spec {
	leaf, inner := aLeaf(id, parent), anInner(id, parent)
	var l []api.Spec
	for _, change := range []func(s *api.Spec){
		func(s *api.Spec) { s.Parent = s.Id },
		func(s *api.Spec) { s.Parent = -1 },
		func(s *api.Spec) { s.Parent = 65536 },
		func(s *api.Spec) { s.Real = bent(4, 0, 3) },
		func(s *api.Spec) { s.Real = straight(api.MaxSlope + 1) },
		func(s *api.Spec) { s.Share = bent(3, 3, 3) },
		func(s *api.Spec) { s.Share = bent(3, 3, 0) },
		func(s *api.Spec) { s.Share, s.Upper = straight(5), bent(5, api.MaxTick+1, 6) },
		func(s *api.Spec) { s.Share, s.Upper = api.Curve{}, straight(1<<20) },
		func(s *api.Spec) { s.Real, s.Share = api.Curve{}, api.Curve{} },
	} {
		l = append(l, but(leaf, change), but(inner, change))
	}
	for _, change := range []func(s *api.Spec){
		func(s *api.Spec) { s.Packets = 0 },
		func(s *api.Spec) { s.Packets = 4097 },
		func(s *api.Spec) { s.Bytes = 0 },
		func(s *api.Spec) { s.Bytes = 1<<24 + 1 },
		func(s *api.Spec) { s.Leaf = false },
		func(s *api.Spec) { s.Real, s.Share, s.Upper = straight(9), straight(1), straight(8) },
	} {
		l = append(l, but(leaf, change))
	}
	for _, change := range []func(s *api.Spec){
		func(s *api.Spec) { s.Real = straight(1) },
		func(s *api.Spec) { s.Packets = 1 },
		func(s *api.Spec) { s.Bytes = 1 },
		func(s *api.Spec) { s.Leaf = true },
	} {
		l = append(l, but(inner, change))
	}
	return l
}

func TestExample(t *testing.T) { // the chapter's own: P16.1, P16.3
	x := New()
	for _, s := range []api.Spec{anInner(1, 0), aLeaf(2, 1), aLeaf(3, 1)} {
		if e := x.Add(s); e != api.OK {
			t.Fatalf("add %d: %d", s.Id, e)
		}
	}
	if l := x.Path(3); !slices.Equal(l, []int{3, 1}) {
		t.Errorf("the path of 3 is %v", l)
	}
	for _, step := range []struct {
		id int
		e  api.Errno
	}{{1, api.ErrChild}, {2, api.OK}, {1, api.ErrChild}, {3, api.OK}, {1, api.OK}} {
		if e := x.Drop(step.id); e != step.e {
			t.Errorf("drop %d: %d, not %d", step.id, e, step.e)
		}
	}
}

func TestHouse(t *testing.T) { // P16.2, P16.3: what some classes tell, in numbers
	x := grown(t, house()...).x
	row := func(what string, l []int, want ...int) {
		t.Helper()
		if !slices.Equal(l, want) {
			t.Errorf("%s: %v, not %v", what, l, want)
		}
	}
	row("ids", x.Ids(), 1, 2, 4, 5, 6, 7, 10, 20, 30, 65535)
	row("under 0", x.Under(0), 1, 2, 7, 10)
	row("under 10", x.Under(10), 5, 20, 30)
	row("under 20", x.Under(20), 4, 6)
	row("under 30", x.Under(30))
	row("under a leaf", x.Under(5))
	row("under none", x.Under(99))
	row("path of 6", x.Path(6), 6, 20, 10)
	row("path of 20", x.Path(20), 20, 10)
	row("path of 1", x.Path(1), 1)
	row("path of 0", x.Path(0))
	row("path of none", x.Path(99))
	row("leaves of 0", x.Leaves(0), 1, 4, 5, 6, 65535)
	row("leaves of 10", x.Leaves(10), 4, 5, 6)
	row("leaves of 20", x.Leaves(20), 4, 6)
	row("leaves of 30", x.Leaves(30))
	row("leaves of a leaf", x.Leaves(6), 6)
	row("leaves of none", x.Leaves(99))
	if s, is := x.Get(4); !is || s != aLeaf(4, 20) {
		t.Errorf("4 is %v %v", s, is)
	}
	for _, id := range []int{-1, 0, 3, 99, 65536} {
		if s, is := x.Get(id); is || s != (api.Spec{}) {
			t.Errorf("%d is %v %v", id, s, is)
		}
	}
	if x.Len() != 10 {
		t.Errorf("%d of them", x.Len())
	}
}

func TestNew(t *testing.T) { // P16.1: each of its own
	x, y := New(), New()
	if x == nil || y == nil || x == y {
		t.Fatal("no tree of its own")
	}
	if e := x.Add(aLeaf(1, 0)); e != api.OK {
		t.Fatal(e)
	}
	holds(t, x, plain{aLeaf(1, 0)})
	holds(t, y, nil)
}

func TestNobodyMade(t *testing.T) { // P16.1 to P16.4: whatever else would be wrong
	for _, x := range []*Tree{nil, {}, new(Tree)} {
		for range 2 { // whatever is told to it changes nothing
			for _, s := range append(misshapen(1, 0), aLeaf(1, 0), anInner(1, 0), aLeaf(2, 1), api.Spec{}) {
				if e := x.Add(s); e != api.ErrNil {
					t.Errorf("add %v: %d", s, e)
				}
				if e := x.Change(s); e != api.ErrNil {
					t.Errorf("change %v: %d", s, e)
				}
			}
			for _, id := range edges() {
				if e := x.Drop(id); e != api.ErrNil {
					t.Errorf("drop %d: %d", id, e)
				}
				if s, is := x.Get(id); is || s != (api.Spec{}) {
					t.Errorf("%d is %v %v", id, s, is)
				}
				if x.Under(id) != nil || x.Path(id) != nil || x.Leaves(id) != nil {
					t.Errorf("%d: %v %v %v", id, x.Under(id), x.Path(id), x.Leaves(id))
				}
			}
			if x.Len() != 0 || x.Ids() != nil {
				t.Errorf("%d of them: %v", x.Len(), x.Ids())
			}
			if c := x.Copy(); c != nil {
				t.Errorf("a copy: %v", c)
			}
		}
	}
}

func TestEmpty(t *testing.T) { // P16.1 to P16.4: a tree without classes, and its copy, and one all of whose classes went
	gone := grown(t, anInner(3, 0), aLeaf(2, 3))
	gone.drop(2, api.OK)
	gone.drop(3, api.OK)
	for _, b := range []*both{grown(t), grown(t).copy(), gone, gone.copy()} {
		for _, id := range edges() {
			b.drop(id, api.ErrAbsent)
			b.change(aLeaf(id, 0), api.ErrAbsent)
		}
		b.add(aLeaf(1, 0), api.OK)
	}
}

func TestIdsThatMay(t *testing.T) { // P16.1: each edge, as an Id and as a Parent
	for _, id := range edges() {
		want := api.OK
		if id < 1 || id > 65535 {
			want = api.ErrShape
		}
		b := grown(t)
		b.add(aLeaf(id, 0), want)
		b = grown(t)
		b.add(anInner(id, 0), want)
		child := aLeaf(9, id)
		if id == 0 {
			want = api.OK
		}
		b.add(child, want)
		b.drop(9, map[api.Errno]api.Errno{api.OK: api.OK, api.ErrShape: api.ErrAbsent}[want])
	}
}

func TestMisshapen(t *testing.T) { // P16.1, P16.7: whatever is wrong with a spec is ErrShape, be the tree full, or its Id there, or its Parent none
	for _, l := range [][]api.Spec{nil, house(), full()} {
		b := grown(t, l...)
		for _, parent := range []int{0, 10, 5, 99} {
			for _, s := range slices.Concat(misshapen(20, parent), misshapen(77, parent)) {
				if spec.May(s) == api.OK {
					t.Fatalf("%v may be", s)
				}
				b.add(s, api.ErrShape)
			}
		}
	}
}

func TestFull(t *testing.T) { // P16.1, P16.7: MaxClass of them, and one too many
	deep := chain(1, 8)
	for _, l := range [][]api.Spec{full(), many(1, 64, 0), many(65472, 64, 0), append(deep[:7:7], many(8, 57, 7)...)} {
		b := grown(t, l...)
		if b.x.Len() != 64 {
			t.Fatalf("%d of them", b.x.Len())
		}
		for range 3 {
			last := l[len(l)-1]
			b.add(aLeaf(300, 0), api.ErrFull)
			b.add(last, api.ErrFull)
			b.change(but(last, func(s *api.Spec) { s.Real = straight(77) }), api.OK)
			b.change(last, api.OK)
			b.drop(last.Id, api.OK)
			b.add(aLeaf(300, 0), api.OK)
			b.add(last, api.ErrFull)
			b.drop(300, api.OK)
			b.add(last, api.OK)
		}
	}
}

func TestDepth(t *testing.T) { // P16.1, P16.5: each depth, of leaves and of inner classes; one too deep
	for n := range 9 {
		b := grown(t, chain(100, n)...)
		above := 99 + n
		if n == 0 {
			above = 0
		}
		want := api.OK
		if n == api.MaxDepth {
			want = api.ErrParent
		}
		if l := b.x.Path(above); len(l) != n {
			t.Fatalf("%d: %v", n, l)
		}
		b.add(aLeaf(5, above), want)
		b.add(anInner(500, above), want)
		b.drop(99, api.ErrAbsent)
	}
	b := grown(t, chain(100, 8)...)
	b.add(aLeaf(1, 107), api.ErrParent)
	b.add(aLeaf(1, 106), api.OK) // beside the deepest one
	b.drop(107, api.OK)
	b.add(aLeaf(107, 106), api.OK)
}

func TestTwice(t *testing.T) { // P16.1: an Id that is there, whatever else is there of it
	b := grown(t, house()...)
	for _, own := range house() {
		b.add(own, api.ErrTwice)
		for _, parent := range []int{0, 10, 2, 5, 99, 65535} {
			if parent != own.Id {
				b.add(aLeaf(own.Id, parent), api.ErrTwice)
				b.add(anInner(own.Id, parent), api.ErrTwice)
			}
		}
	}
}

func TestParents(t *testing.T) { // P16.1: 0, inner classes, leaves, and such as aren't there
	for _, parent := range append(edges(), 4, 5, 6, 10, 20, 30, 40, 99) {
		for _, made := range []func(id, parent int) api.Spec{aLeaf, anInner} {
			b := grown(t, house()...)
			want := api.ErrParent
			switch {
			case parent < 0 || parent > 65535:
				want = api.ErrShape
			case slices.Contains([]int{0, 2, 7, 10, 20, 30}, parent):
				want = api.OK
			}
			b.add(made(50, parent), want)
		}
	}
}

func TestParentGoes(t *testing.T) { // P16.1: one that was there isn't one any more, until it comes again
	b := grown(t, anInner(1, 0))
	b.drop(1, api.OK)
	b.add(aLeaf(2, 1), api.ErrParent)
	b.add(aLeaf(1, 0), api.OK)
	b.add(aLeaf(2, 1), api.ErrParent)
	b.drop(1, api.OK)
	b.add(anInner(1, 0), api.OK)
	b.add(aLeaf(2, 1), api.OK)
}

func TestWhichIsTold(t *testing.T) { // P16.1: of several that don't hold the first one, in the chapter's order
	for faults := range 16 {
		shape, crowd, twice := faults&1 != 0, faults&2 != 0, faults&4 != 0
		parents := []int{3, 0}
		if faults&8 != 0 {
			parents = []int{8, 39, 999} // the deepest one, a leaf, none
		}
		l := full()
		if !crowd {
			l = l[:63]
		}
		b := grown(t, l...)
		for _, parent := range parents {
			s := aLeaf(300, parent)
			if twice {
				s = aLeaf(20, parent)
			}
			if shape {
				s.Packets = 0
			}
			want := api.OK
			switch {
			case shape:
				want = api.ErrShape
			case crowd:
				want = api.ErrFull
			case twice:
				want = api.ErrTwice
			case faults&8 != 0:
				want = api.ErrParent
			}
			b.add(s, want)
			if want == api.OK {
				b.drop(s.Id, api.OK)
			}
		}
	}
}

func TestChange(t *testing.T) { // P16.1: Id and the three curves count alone
	upper := straight(api.MaxSlope)
	for _, own := range house() {
		for _, with := range []api.Spec{
			{Share: straight(3)},
			{Share: bent(3, 9, 7), Upper: upper},
			{Real: straight(3)},
			{Real: bent(0, 9, 7)},
			{Real: bent(7, 9, 0), Share: bent(8, 1, 2)},
			{Real: straight(3), Share: straight(api.MaxSlope), Upper: upper},
			{Real: own.Real, Share: own.Share, Upper: own.Upper},
		} {
			may := api.OK
			if !own.Leaf && with.Real != (api.Curve{}) {
				may = api.ErrShape
			}
			for _, beside := range []func(s *api.Spec){
				func(s *api.Spec) {},
				func(s *api.Spec) { s.Parent, s.Leaf, s.Packets, s.Bytes = own.Parent, own.Leaf, own.Packets, own.Bytes },
				func(s *api.Spec) { s.Parent, s.Leaf, s.Packets, s.Bytes = 10, true, 9, 9 },
				func(s *api.Spec) { s.Parent, s.Leaf, s.Packets, s.Bytes = 99, false, 0, 0 },
				func(s *api.Spec) { s.Parent, s.Leaf, s.Packets, s.Bytes = own.Id, !own.Leaf, -1, 1<<24+1 },
				func(s *api.Spec) { s.Parent, s.Leaf, s.Packets, s.Bytes = -7, !own.Leaf, 4097, -1 },
			} {
				s := but(with, beside)
				s.Id = own.Id
				b := grown(t, house()...)
				b.change(s, may)
				b.change(s, may) // as it is
				b.change(own, api.OK)
				if g, _ := b.x.Get(own.Id); g != own {
					t.Fatalf("%v is %v", own, g)
				}
			}
		}
	}
}

func TestChangeWrong(t *testing.T) { // P16.1, P16.7: curves that the class's own spec may not have
	top, wrong, none := straight(api.MaxSlope), bent(4, 0, 3), api.Curve{}
	for _, x := range []struct {
		curves      [3]api.Curve
		leaf, inner api.Errno
	}{
		{[3]api.Curve{none, none, none}, api.ErrShape, api.ErrShape},
		{[3]api.Curve{straight(1), none, none}, api.OK, api.ErrShape},
		{[3]api.Curve{none, straight(1), none}, api.OK, api.OK},
		{[3]api.Curve{straight(1), straight(1), none}, api.OK, api.ErrShape},
		{[3]api.Curve{none, straight(1), top}, api.OK, api.OK},
		{[3]api.Curve{straight(1), straight(1), straight(1)}, api.OK, api.ErrShape},
		{[3]api.Curve{straight(2), straight(1), straight(1)}, api.ErrShape, api.ErrShape},
		{[3]api.Curve{none, none, top}, api.ErrShape, api.ErrShape},
		{[3]api.Curve{straight(1), none, top}, api.ErrShape, api.ErrShape},
		{[3]api.Curve{none, bent(1, 1, 0), none}, api.ErrShape, api.ErrShape},
		{[3]api.Curve{none, straight(1), bent(1, 1, 0)}, api.ErrShape, api.ErrShape},
		{[3]api.Curve{wrong, straight(1), none}, api.ErrShape, api.ErrShape},
		{[3]api.Curve{none, wrong, none}, api.ErrShape, api.ErrShape},
		{[3]api.Curve{none, straight(1), wrong}, api.ErrShape, api.ErrShape},
		{[3]api.Curve{none, straight(api.MaxSlope + 1), none}, api.ErrShape, api.ErrShape},
		{[3]api.Curve{bent(1, api.MaxTick+1, 2), none, none}, api.ErrShape, api.ErrShape},
	} {
		b := grown(t, house()...)
		for _, own := range house() {
			want := x.inner
			if own.Leaf {
				want = x.leaf
			}
			s := but(own, func(s *api.Spec) { s.Real, s.Share, s.Upper = x.curves[0], x.curves[1], x.curves[2] })
			b.change(s, want)
			s.Id = 99 // of two that don't hold the first one
			b.change(s, api.ErrAbsent)
		}
	}
}

func TestChangeAbsent(t *testing.T) { // P16.1: whatever else is told
	b := grown(t, house()...)
	for _, id := range append(edges(), 3, 8, 11, 21, 99) {
		if _, is := b.p.get(id); is {
			continue
		}
		b.change(aLeaf(id, 0), api.ErrAbsent)
		b.change(anInner(id, 10), api.ErrAbsent)
		b.change(api.Spec{Id: id}, api.ErrAbsent)
	}
}

func TestDrop(t *testing.T) { // P16.1: 0, one that isn't there, one with others under it; the last of these, and then that one
	b := grown(t, house()...)
	for _, step := range []struct {
		id int
		e  api.Errno
	}{
		{0, 81}, {-1, 81}, {99, 81}, {65536, 81}, {10, 161}, {20, 161}, {7, 161},
		{4, 0}, {4, 81}, {20, 161}, {6, 0}, {20, 0}, {20, 81}, {10, 161}, {30, 0}, {10, 161}, {5, 0}, {10, 0}, {10, 81},
		{65535, 0}, {7, 0}, {0, 81}, {2, 0}, {1, 0}, {1, 81}, {0, 81},
	} {
		b.drop(step.id, step.e)
	}
	holds(t, b.x, nil)
}

func TestAnew(t *testing.T) { // P16.1, P16.2: a class that went comes as another one
	b := grown(t, house()...)
	b.change(but(aLeaf(4, 20), func(s *api.Spec) { s.Share = straight(8) }), api.OK)
	b.drop(4, api.OK)
	b.add(aLeaf(4, 10), api.OK)
	b.drop(4, api.OK)
	b.add(anInner(4, 0), api.OK)
	b.add(aLeaf(3, 4), api.OK)
	b.drop(6, api.OK)
	b.drop(20, api.OK)
	b.add(aLeaf(20, 4), api.OK)
	b.add(aLeaf(6, 20), api.ErrParent)
}

// alter has each number of a row be another one, and adds some, as whoever got it may.
func alter(l []int) {
	all := l[:cap(l)]
	for i := range all {
		all[i] = -9
	}
	_ = append(l, 99, 98)
}

func TestRowsAreTheCallers(t *testing.T) { // P16.2, P16.3: whatever is done to them
	b := grown(t, house()...)
	for round := range 6 {
		for _, id := range append(b.p.ids(), edges()...) {
			for _, l := range [][]int{b.x.Ids(), b.x.Under(id), b.x.Path(id), b.x.Leaves(id)} {
				alter(l)
				holds(t, b.x, b.p)
			}
		}
		b.add(aLeaf(40+round, 10), api.OK) // in whatever room the rows have
		b.drop([]int{4, 6, 20, 5, 30, 1}[round], api.OK)
	}
}

func TestRowsStay(t *testing.T) { // P16.2, P16.3: whatever becomes of the tree
	b := grown(t, house()...)
	ids, under, path, leaves := b.x.Ids(), b.x.Under(10), b.x.Path(4), b.x.Leaves(10)
	top := b.x.Under(0)
	for _, id := range []int{4, 5, 6, 20, 30, 10, 1} {
		b.drop(id, api.OK)
	}
	for id := range 12 {
		b.tryAdd(aLeaf(id+30, 2))
	}
	for _, x := range []struct{ l, want []int }{
		{ids, []int{1, 2, 4, 5, 6, 7, 10, 20, 30, 65535}},
		{under, []int{5, 20, 30}},
		{path, []int{4, 20, 10}},
		{leaves, []int{4, 5, 6}},
		{top, []int{1, 2, 7, 10}},
	} {
		if !slices.Equal(x.l, x.want) {
			t.Errorf("%v, not %v", x.l, x.want)
		}
	}
}

func TestCopy(t *testing.T) { // P16.4: the same; each goes on alone, the other one stays
	for _, l := range [][]api.Spec{nil, {aLeaf(1, 0)}, {anInner(1, 0)}, house(), full()} {
		for _, other := range []bool{false, true} {
			b := grown(t, l...)
			c := b.copy()
			if c.x == b.x {
				t.Fatal("the same tree")
			}
			holds(t, c.x, b.p)
			if other {
				b, c = c, b
			}
			played(b, rand.New(rand.NewSource(int64(164+len(l)))), 60, func() { holds(t, c.x, c.p) })
			kept := slices.Clone(b.p)
			played(c, rand.New(rand.NewSource(int64(165+len(l)))), 60, func() { holds(t, b.x, kept) })
		}
	}
}

func TestCopyRoom(t *testing.T) { // P16.4: what comes under the same class here and there, in whatever room a row has
	for n := range 12 {
		b := grown(t, append([]api.Spec{anInner(1, 0)}, many(10, n, 1)...)...)
		c := b.copy()
		b.add(aLeaf(100, 1), api.OK)
		c.add(aLeaf(200, 1), api.OK)
		b.add(aLeaf(2, 1), api.OK)
		c.add(aLeaf(3, 1), api.OK)
		b.add(aLeaf(5, 0), api.OK)
		c.add(aLeaf(6, 0), api.OK)
		b.drop(100, api.OK)
		holds(t, c.x, c.p)
		c.drop(3, api.OK)
		holds(t, b.x, b.p)
	}
}

// comings goes over each order of classes in which parents come first.
func comings(l []api.Spec) iter.Seq[[]api.Spec] {
	return func(yield func([]api.Spec) bool) {
		var more func(done, left []api.Spec) bool
		more = func(done, left []api.Spec) bool {
			if len(left) == 0 {
				return yield(slices.Clone(done))
			}
			for i, s := range left {
				if _, is := plain(done).get(s.Parent); s.Parent != 0 && !is {
					continue
				}
				if !more(append(slices.Clone(done), s), slices.Delete(slices.Clone(left), i, i+1)) {
					return false
				}
			}
			return true
		}
		more(nil, l)
	}
}

// told is all that a tree tells, whatever is asked.
func told(x *Tree) string {
	s := fmt.Sprintf("%d %#v", x.Len(), x.Ids())
	for _, id := range append(append(x.Ids(), edges()...), 99) {
		own, is := x.Get(id)
		s += fmt.Sprintf("\n%d %v %v %#v %#v %#v", id, own, is, x.Under(id), x.Path(id), x.Leaves(id))
	}
	return s
}

func TestEachOrder(t *testing.T) { // P16.6: in whatever order in which parents come first; likewise in which they go
	for _, l := range [][]api.Spec{
		{anInner(1, 0), aLeaf(2, 1), aLeaf(3, 1)},
		{anInner(3, 0), anInner(2, 3), anInner(1, 2), aLeaf(4, 1)},
		{aLeaf(5, 0), aLeaf(1, 0), aLeaf(4, 0), aLeaf(2, 0), aLeaf(3, 0)},
		{anInner(10, 0), aLeaf(5, 10), anInner(20, 10), aLeaf(6, 20), aLeaf(4, 20), aLeaf(1, 0), anInner(7, 0)},
	} {
		want := told(grown(t, l...).x)
		for in := range comings(l) {
			x := New()
			for _, s := range in {
				if e := x.Add(s); e != api.OK {
					t.Fatalf("%v: add %d: %d", in, s.Id, e)
				}
			}
			if got := told(x); got != want {
				t.Fatalf("%v: %s\nnot %s", in, got, want)
			}
			isTree(t, x)
			for left := len(in) - 1; left >= 0; left-- {
				if e := x.Drop(in[left].Id); e != api.OK {
					t.Fatalf("%v: drop %d: %d", in, in[left].Id, e)
				}
				p := plain(in[:left])
				same(t, p, "ids", 0, x.Ids(), p.ids())
				same(t, p, "under", 0, x.Under(0), p.under(0))
			}
			if got := told(x); got != told(New()) {
				t.Fatalf("%v: %s is left", in, got)
			}
		}
	}
}

func TestOrderCounts(t *testing.T) { // P16.6: whoever comes ahead of its parent is refused
	for _, l := range [][]api.Spec{{aLeaf(2, 1), anInner(1, 0)}, {anInner(3, 2), anInner(2, 1), anInner(1, 0)}} {
		b := grown(t)
		for i, s := range l {
			want := api.ErrParent
			if i == len(l)-1 {
				want = api.OK
			}
			b.add(s, want)
		}
	}
}

func TestCameAndWent(t *testing.T) { // P16.6, P16.7: behind each class of a house each that may come can go again, at once, and nothing is left of it
	l := house()
	for n := range len(l) + 1 {
		b := grown(t, l[:n]...)
		want := told(b.x)
		for _, parent := range []int{0, 1, 2, 5, 7, 10, 20, 30, 99} {
			for _, id := range []int{3, 4, 15, 25, 65534, 65535} {
				for _, s := range []api.Spec{aLeaf(id, parent), anInner(id, parent)} {
					if b.tryAdd(s) == api.OK {
						b.drop(id, api.OK)
					}
					if got := told(b.x); got != want {
						t.Fatalf("%v: %v came and went: %s", b.p, s, got)
					}
				}
			}
		}
	}
}

func TestRefused(t *testing.T) { // P16.7: all is as it was, and goes on as a tree to which that was never told
	for _, l := range [][]api.Spec{nil, house(), full()} {
		b := grown(t, l...)
		want := told(b.x)
		refused := func(what string, e api.Errno) {
			t.Helper()
			if got := told(b.x); e == api.OK || got != want {
				t.Fatalf("%s: %d: %s\nnot %s", what, e, got, want)
			}
		}
		for _, id := range append(b.p.ids(), 0, -1, 99, 65536) {
			for _, s := range misshapen(id, 0) {
				refused("add", b.x.Add(s))
			}
			refused("change", b.x.Change(api.Spec{Id: id}))
			refused("change", b.x.Change(api.Spec{Id: id, Share: bent(4, 0, 3)}))
			if _, is := b.p.get(id); is {
				refused("twice", b.x.Add(aLeaf(id, 99)))
			}
			if _, is := b.p.get(id); !is || len(b.p.under(id)) > 0 {
				refused("drop", b.x.Drop(id))
			}
		}
		refused("parent", b.x.Add(aLeaf(300, 98)))
		played(b, rand.New(rand.NewSource(167)), 80, func() {})
	}
}

// played tells a tree, and the plain one, so many things by chance, and does what is to be done behind each.
func played(b *both, chance *rand.Rand, steps int, behind func()) {
	b.t.Helper()
	for range steps {
		step(b, chance)
		behind()
	}
}

// anId is one that is there most often, or of few, or any edge.
func anId(b *both, chance *rand.Rand) int {
	switch n := chance.Intn(8); {
	case n == 0:
		return edges()[chance.Intn(len(edges()))]
	case n < 4 || len(b.p) == 0:
		return chance.Intn(90)
	}
	return b.p[chance.Intn(len(b.p))].Id
}

// anyCurve is none, or small, or one that may not be.
func anyCurve(chance *rand.Rand) api.Curve {
	small := func() uint64 { return uint64(chance.Intn(4)) }
	switch chance.Intn(5) {
	case 0:
		return bent(small(), small(), small())
	case 1, 2:
		return straight(1 + small())
	case 3:
		return bent(1+small(), 9, 5+small())
	}
	return api.Curve{}
}

// anySpec is a leaf's or an inner one's most often as it may be, else whatever it is.
func anySpec(b *both, chance *rand.Rand) api.Spec {
	id, parent := anId(b, chance), anId(b, chance)
	if chance.Intn(4) > 0 && len(b.p) > 0 { // the newest one, so that it becomes deep
		parent = b.p[len(b.p)-1-chance.Intn(min(3, len(b.p)))].Id
	}
	if chance.Intn(6) == 0 {
		parent = 0
	}
	s := aLeaf(id, parent)
	if chance.Intn(5) < 2 {
		s = anInner(id, parent)
	}
	if chance.Intn(6) == 0 {
		s.Real, s.Share, s.Upper = anyCurve(chance), anyCurve(chance), anyCurve(chance)
	}
	if chance.Intn(12) == 0 {
		s.Packets, s.Bytes, s.Leaf = chance.Intn(5)-1, chance.Intn(5)-1, chance.Intn(2) == 0
	}
	return s
}

func step(b *both, chance *rand.Rand) {
	b.t.Helper()
	switch n := chance.Intn(10); {
	case n < 6:
		b.tryAdd(anySpec(b, chance))
	case n < 8:
		s := anySpec(b, chance)
		s.Real, s.Share, s.Upper = anyCurve(chance), anyCurve(chance), anyCurve(chance)
		b.tryChange(s)
	default:
		b.tryDrop(anId(b, chance))
	}
}

func TestWhateverIsTold(t *testing.T) { // P16.1 to P16.7: behind each step as the plain one has it
	chance := rand.New(rand.NewSource(16))
	most, deepest, codes := 0, 0, map[api.Errno]int{}
	for round := range 30 {
		b := grown(t)
		if round%3 == 0 {
			b = grown(t, full()[:60+round%5]...)
		}
		for range 250 {
			switch chance.Intn(40) {
			case 0:
				b = b.copy()
			case 1:
				codes[b.tryDrop(anId(b, chance))]++
			case 2, 3:
				codes[b.tryAdd(anySpec(b, chance))]++
			default:
				step(b, chance)
			}
			most = max(most, len(b.p))
			for _, s := range b.p {
				deepest = max(deepest, b.p.depth(s))
			}
		}
	}
	if most != api.MaxClass || deepest != api.MaxDepth {
		t.Errorf("%d classes at most, of a depth of %d", most, deepest)
	}
	for _, e := range []api.Errno{api.OK, api.ErrShape, api.ErrFull, api.ErrTwice, api.ErrParent, api.ErrAbsent, api.ErrChild} {
		if codes[e] == 0 {
			t.Errorf("%d was never told", e)
		}
	}
}
