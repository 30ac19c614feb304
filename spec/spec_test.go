package spec

import (
	"math"
	"math/big"
	"math/rand"
	"regexp"
	"strconv"
	"strings"
	"testing"

	"distributary/api"
)

const top = math.MaxUint64

func of(first, length, rest uint64) api.Curve {
	return api.Curve{First: first, Length: length, Rest: rest}
}

func straight(slope uint64) api.Curve { return of(0, 0, slope) }

// none is no curve; wrong may not be.
var (
	none  = api.Curve{}
	wrong = of(4, 0, 3)
)

// aLeaf and anInner may be, if their curves may be theirs.
func aLeaf(real, share, upper api.Curve) api.Spec {
	return api.Spec{Id: 5, Parent: 2, Leaf: true, Real: real, Share: share, Upper: upper, Packets: 10, Bytes: 1000}
}

func anInner(real, share, upper api.Curve) api.Spec {
	return api.Spec{Id: 5, Parent: 2, Real: real, Share: share, Upper: upper}
}

// but is the spec, changed so.
func but(s api.Spec, change func(s *api.Spec)) api.Spec {
	change(&s)
	return s
}

// written is DOC.md's 'It may be', word by word.
func written(c api.Curve) bool {
	if c.First > 1<<20 || c.Rest > 1<<20 || c.Length > 1<<40 {
		return false
	}
	if c.Length == 0 {
		return c.First == 0
	}
	return c.First != c.Rest
}

// at is what a curve of small numbers has at t.
func at(c api.Curve, t uint64) uint64 {
	if t <= c.Length {
		return c.First * t
	}
	return c.First*c.Length + c.Rest*(t-c.Length)
}

// far is so far that of small curves (slopes to 9, Lengths to 9) one that ever has more than another has more by then.
const far = 120

// under is whether a small curve has at most what another one has, tick by tick.
func under(a, b api.Curve) bool {
	for t := range uint64(far) {
		if at(a, t) > at(b, t) {
			return false
		}
	}
	return true
}

// told is the chapter's 'A spec may be', word by word, of small curves, or such as may not be: which of the five doesn't hold first, and its error; 0 and OK, if it may be.
func told(s api.Spec) (int, api.Errno) {
	if s.Id < 1 || s.Id > 65535 || s.Parent < 0 || s.Parent > 65535 || s.Id == s.Parent {
		return 1, 130
	}
	if !written(s.Real) || !written(s.Share) || !written(s.Upper) {
		return 2, 30
	}
	owed, shared, limited := s.Real != none, s.Share != none, s.Upper != none
	if s.Leaf {
		if !owed && !shared || s.Packets < 1 || s.Packets > 4096 || s.Bytes < 1 || s.Bytes > 16777216 {
			return 3, 130
		}
	} else if !shared || owed || s.Packets != 0 || s.Bytes != 0 {
		return 3, 130
	}
	if shared && s.Share.Rest == 0 || limited && s.Upper.Rest == 0 || limited && !shared {
		return 4, 130
	}
	if owed && limited && !under(s.Real, s.Upper) {
		return 5, 130
	}
	return 0, 0
}

// kindByWords is the chapter's 'A spec's kind'.
func kindByWords(s api.Spec) uint8 {
	if !s.Leaf {
		return KnInner
	}
	return [4]uint8{0, KnReal, KnShare, KnBoth}[2*number(s.Share != none)+number(s.Real != none)]
}

func number(is bool) int {
	if is {
		return 1
	}
	return 0
}

// judged holds May and Kind against the words.
func judged(t *testing.T, s api.Spec) {
	t.Helper()
	if _, want := told(s); May(s) != want {
		t.Fatalf("%v: %d, not %d", s, May(s), want)
	}
	if want := kindByWords(s); Kind(s) != want {
		t.Fatalf("kind of %v: %d, not %d", s, Kind(s), want)
	}
}

// curves are small ones: none, such as may be, and such as may not.
func curves() []api.Curve {
	var l []api.Curve
	for _, first := range []uint64{0, 1, 2, 5} {
		for _, length := range []uint64{0, 1, 4} {
			for _, rest := range []uint64{0, 1, 2, 5} {
				l = append(l, of(first, length, rest))
			}
		}
	}
	return l
}

// few are some of them, of each sort, and some beyond the limits.
func few() []api.Curve {
	return []api.Curve{
		none, straight(1), straight(2), of(4, 3, 1), of(0, 3, 2), of(1, 5, 3), of(3, 2, 0), of(2, 1, 1),
		wrong, of(1, 0, 0), of(2, 3, 2), of(0, 1, 0),
		straight(1<<20 + 1), of(1<<20+1, 1, 1), of(0, 1<<40+1, 1), of(top, top, top),
	}
}

// shapes are specs that may be, and that may not for each reason.
func shapes() []api.Spec {
	var l []api.Spec
	for _, real := range few() {
		for _, share := range few() {
			for _, upper := range few() {
				l = append(l, aLeaf(real, share, upper), anInner(real, share, upper))
			}
		}
	}
	for _, s := range l[:64] {
		for _, packets := range []int{-1, 0, 1, 4096, 4097} {
			for _, bytes := range []int{-1, 0, 1, 1 << 24, 1<<24 + 1} {
				s.Packets, s.Bytes = packets, bytes
				l = append(l, s)
			}
		}
	}
	return l
}

// edges are numbers at the edges of an Id, a Parent, Packets and Bytes, and some between.
func edges() []int {
	return []int{
		math.MinInt, math.MinInt + 1, -65536, -65535, -2, -1, 0, 1, 2, 3, 4095, 4096, 4097, 65534, 65535, 65536, 65537,
		1<<24 - 1, 1 << 24, 1<<24 + 1, 1<<32 + 1, math.MaxInt - 1, math.MaxInt,
	}
}

func TestKinds(t *testing.T) { // the chapter's constants
	if KnReal != 1 || KnShare != 2 || KnBoth != 3 || KnInner != 4 {
		t.Errorf("%d %d %d %d", KnReal, KnShare, KnBoth, KnInner)
	}
}

func TestMayExamples(t *testing.T) { // P13.1: of which the chapter tells
	for _, x := range []struct {
		text string
		want api.Errno
	}{
		{"leaf 5 2 4/10/1 0/0/3 0/0/0 10 1000", api.OK},
		{"leaf 5 2 0/0/0 0/0/0 0/0/0 10 1000", api.ErrShape},
		{"leaf 5 2 4/10/1 4/10/0 0/0/0 10 1000", api.ErrShape},
		{"leaf 5 2 4/10/1 4/0/3 0/0/0 10 1000", api.ErrCurve},
	} {
		s, e := Parse(x.text)
		if e != api.OK || May(s) != x.want {
			t.Errorf("%q: %d, %d, not %d", x.text, e, May(s), x.want)
		}
	}
}

func TestMayOfIds(t *testing.T) { // P13.1: an Id, a Parent at and beyond their edges
	for _, x := range []struct {
		id, parent int
		want       api.Errno
	}{
		{1, 0, api.OK}, {1, 2, api.OK}, {2, 1, api.OK}, {65535, 0, api.OK}, {65535, 65534, api.OK}, {1, 65535, api.OK}, {65534, 65535, api.OK},
		{0, 1, api.ErrShape}, {-1, 1, api.ErrShape}, {math.MinInt, 1, api.ErrShape},
		{65536, 1, api.ErrShape}, {65537, 1, api.ErrShape}, {math.MaxInt, 1, api.ErrShape}, {1<<32 + 5, 1, api.ErrShape},
		{5, -1, api.ErrShape}, {5, -5, api.ErrShape}, {5, math.MinInt, api.ErrShape},
		{5, 65536, api.ErrShape}, {5, math.MaxInt, api.ErrShape}, {5, 1<<32 + 2, api.ErrShape},
		{1, 1, api.ErrShape}, {5, 5, api.ErrShape}, {65535, 65535, api.ErrShape}, // another one
		{0, 0, api.ErrShape}, {-1, -1, api.ErrShape}, {65536, 65536, api.ErrShape},
	} {
		for _, s := range []api.Spec{aLeaf(straight(1), straight(3), none), aLeaf(straight(1), none, none), anInner(none, straight(3), straight(9))} {
			s.Id, s.Parent = x.id, x.parent
			if e := May(s); e != x.want {
				t.Errorf("%v: %d, not %d", s, e, x.want)
			}
		}
	}
}

func TestMayOfCurves(t *testing.T) { // P13.1: each of the three one that may not be, whatever the others
	for _, bad := range []api.Curve{
		wrong, of(1, 0, 0), of(2, 3, 2), of(0, 1, 0), of(0, 1<<40, 0), of(1<<20, 1<<40, 1<<20),
		straight(1<<20 + 1), of(1<<20+1, 1, 1), of(1, 1, 1<<20+1), of(2, 1<<40+1, 1), of(2, top, 1), straight(top), of(top, top, top),
	} {
		for _, s := range []api.Spec{
			aLeaf(bad, none, none), aLeaf(bad, straight(3), none), aLeaf(bad, straight(3), straight(5)),
			aLeaf(none, bad, none), aLeaf(straight(1), bad, none), aLeaf(straight(1), bad, straight(5)),
			aLeaf(none, none, bad), aLeaf(straight(1), none, bad), aLeaf(straight(1), straight(3), bad),
			anInner(bad, straight(3), none), anInner(none, bad, none), anInner(none, straight(3), bad), anInner(bad, bad, bad),
		} {
			if e := May(s); e != api.ErrCurve {
				t.Errorf("%v: %d", s, e)
			}
		}
	}
	for _, good := range []api.Curve{straight(1), straight(1 << 20), of(1<<20, 1<<40, 1), of(0, 1<<40, 1<<20), of(1<<20, 1, 1<<20-1)} {
		for _, s := range []api.Spec{aLeaf(good, none, none), aLeaf(none, good, none), aLeaf(good, good, good), anInner(none, good, good)} {
			if e := May(s); e != api.OK {
				t.Errorf("%v: %d", s, e)
			}
		}
	}
}

func TestMayOfShapes(t *testing.T) { // P13.1: what a leaf, and an inner class, has and hasn't
	owed, share := of(4, 10, 0), straight(3)
	for _, x := range []struct {
		s    api.Spec
		want api.Errno
		kind uint8
	}{
		{aLeaf(none, none, none), api.ErrShape, 0},
		{aLeaf(none, none, straight(9)), api.ErrShape, 0},
		{aLeaf(owed, none, none), api.OK, KnReal},
		{aLeaf(none, share, none), api.OK, KnShare},
		{aLeaf(owed, share, none), api.OK, KnBoth},
		{aLeaf(none, share, straight(9)), api.OK, KnShare},
		{aLeaf(owed, share, straight(9)), api.OK, KnBoth},
		{anInner(none, share, none), api.OK, KnInner},
		{anInner(none, share, straight(9)), api.OK, KnInner},
		{anInner(none, none, none), api.ErrShape, KnInner},
		{anInner(none, none, straight(9)), api.ErrShape, KnInner},
		{anInner(owed, share, none), api.ErrShape, KnInner},
		{anInner(straight(1), share, straight(9)), api.ErrShape, KnInner},
		{anInner(owed, none, none), api.ErrShape, KnInner},
		{but(anInner(none, share, none), func(s *api.Spec) { s.Packets = 1 }), api.ErrShape, KnInner},
		{but(anInner(none, share, none), func(s *api.Spec) { s.Bytes = 1 }), api.ErrShape, KnInner},
		{but(anInner(none, share, none), func(s *api.Spec) { s.Packets = -1 }), api.ErrShape, KnInner},
		{but(anInner(none, share, none), func(s *api.Spec) { s.Bytes = -1 }), api.ErrShape, KnInner},
		{but(anInner(none, share, none), func(s *api.Spec) { s.Packets, s.Bytes = 10, 1000 }), api.ErrShape, KnInner},
		{api.Spec{}, api.ErrShape, KnInner},
		{api.Spec{Leaf: true}, api.ErrShape, 0},
	} {
		if e, kind := May(x.s), Kind(x.s); e != x.want || kind != x.kind {
			t.Errorf("%v: %d, not %d; kind %d, not %d", x.s, e, x.want, kind, x.kind)
		}
	}
}

func TestMayOfQueues(t *testing.T) { // P13.1: below 1, 1, the most, and one more; of an inner class 0 alone
	for _, packets := range edges() {
		for _, bytes := range edges() {
			room := func(s *api.Spec) { s.Packets, s.Bytes = packets, bytes }
			want := api.ErrShape
			if packets >= 1 && packets <= 4096 && bytes >= 1 && bytes <= 16777216 {
				want = api.OK
			}
			for _, s := range []api.Spec{aLeaf(straight(1), none, none), aLeaf(none, straight(1), none), aLeaf(straight(1), straight(1), straight(1))} {
				if e := May(but(s, room)); e != want {
					t.Errorf("%d %d of %v: %d, not %d", packets, bytes, s, e, want)
				}
			}
			want = api.ErrShape
			if packets == 0 && bytes == 0 {
				want = api.OK
			}
			if e := May(but(anInner(none, straight(1), none), room)); e != want {
				t.Errorf("%d %d of an inner class: %d, not %d", packets, bytes, e, want)
			}
		}
	}
}

func TestMayOfRests(t *testing.T) { // P13.1: a Share, an Upper curve whose Rest is 0; an Upper one without a Share one
	flat := of(4, 10, 0)
	for _, owed := range []api.Curve{none, straight(1), of(3, 2, 0)} {
		for _, x := range []struct {
			share, upper api.Curve
			want         api.Errno
		}{
			{straight(1), none, api.OK}, {of(4, 10, 1), none, api.OK}, {of(0, 10, 1), none, api.OK},
			{flat, none, api.ErrShape}, {of(1<<20, 1<<40, 0), none, api.ErrShape}, {of(1, 1, 0), none, api.ErrShape},
			{straight(1), straight(3), api.OK}, {straight(1), of(4, 10, 1), api.OK}, {straight(1), of(3, 10, 4), api.OK},
			{straight(1), flat, api.ErrShape}, {straight(1), of(1<<20, 1<<40, 0), api.ErrShape},
			{flat, straight(4), api.ErrShape}, {flat, flat, api.ErrShape},
			{none, straight(4), api.ErrShape}, {none, of(4, 10, 1), api.ErrShape}, {none, flat, api.ErrShape}, {none, straight(1 << 20), api.ErrShape},
		} {
			if e := May(aLeaf(owed, x.share, x.upper)); e != x.want {
				t.Errorf("leaf of %v, %v, %v: %d, not %d", owed, x.share, x.upper, e, x.want)
			}
			if owed == none {
				if e := May(anInner(none, x.share, x.upper)); e != x.want {
					t.Errorf("inner class of %v, %v: %d, not %d", x.share, x.upper, e, x.want)
				}
			}
		}
	}
}

func TestMayOfLimits(t *testing.T) { // P13.1: a Real curve just below an Upper one, equal to it, above it by one at one tick
	for _, x := range []struct {
		real, upper api.Curve
		want        api.Errno
	}{
		{straight(3), straight(3), api.OK}, {straight(2), straight(3), api.OK}, {straight(4), straight(3), api.ErrShape},
		{straight(1 << 20), straight(1 << 20), api.OK}, {straight(1 << 20), straight(1<<20 - 1), api.ErrShape},
		{of(4, 10, 1), of(4, 10, 1), api.OK}, {of(4, 10, 1), of(4, 10, 2), api.OK}, {of(4, 10, 1), of(4, 11, 1), api.OK}, {of(4, 10, 1), of(5, 10, 1), api.OK},
		{of(4, 10, 2), of(4, 10, 1), api.ErrShape}, {of(4, 11, 1), of(4, 10, 1), api.ErrShape}, {of(5, 10, 1), of(4, 10, 1), api.ErrShape},
		{of(0, 10, 3), of(0, 10, 3), api.OK}, {of(0, 11, 3), of(0, 10, 3), api.OK}, {of(0, 10, 3), of(0, 11, 3), api.ErrShape},
		{of(2, 1, 1), straight(2), api.OK}, {of(3, 1, 1), straight(3), api.OK}, {of(3, 1, 1), of(3, 2, 1), api.OK},
		{of(3, 1, 1), straight(2), api.ErrShape},           // 3 at 1, where there are 2; then 4 of 4, 5 of 6
		{of(0, 9, 1), of(0, 10, 2), api.ErrShape},          // 1 at 10, where there is none; then 2 of 2, 3 of 4
		{of(0, 10, 1), of(0, 10, 2), api.OK},               // the same, but for that one
		{of(0, 1<<40-1, 1), of(0, 1<<40, 2), api.ErrShape}, // likewise, as far ahead as it may be
		{of(0, 1<<40, 1), of(0, 1<<40, 2), api.OK},         //
		{of(0, 1<<40, 2), straight(1), api.ErrShape},       // only behind 2^41
		{of(1, 1<<40, 0), straight(1), api.OK},             // the same, up to the last tick of its First
		{of(1, 1<<40, 0), of(0, 1, 1), api.ErrShape},       // above it by one, all the way
		{of(1<<20, 1<<40, 1), of(1<<20, 1<<40, 2), api.OK}, //
		{of(1<<20, 1<<40, 0), straight(1<<20 - 1), api.ErrShape},
	} {
		if e := May(aLeaf(x.real, straight(1), x.upper)); e != x.want {
			t.Errorf("%v, of most %v: %d, not %d", x.real, x.upper, e, x.want)
		}
		if e := May(aLeaf(x.real, straight(1), none)); e != api.OK { // what there isn't is no limit
			t.Errorf("%v without a limit: %d", x.real, e)
		}
		if e := May(aLeaf(none, x.real, x.upper)); e != api.OK && x.real.Rest > 0 { // nor is it one of the Share curve
			t.Errorf("a share %v of most %v: %d", x.real, x.upper, e)
		}
	}
}

func TestMayTellsTheFirst(t *testing.T) { // P13.1: where more than one thing may not be
	for _, x := range []struct {
		s    api.Spec
		want api.Errno
	}{
		{but(aLeaf(wrong, none, none), func(s *api.Spec) { s.Id = 0 }), api.ErrShape},           // 1 ahead of 2
		{but(aLeaf(none, wrong, none), func(s *api.Spec) { s.Id = 65536 }), api.ErrShape},       //
		{but(aLeaf(none, none, wrong), func(s *api.Spec) { s.Parent = -1 }), api.ErrShape},      //
		{but(anInner(none, wrong, none), func(s *api.Spec) { s.Parent = 65536 }), api.ErrShape}, //
		{but(anInner(none, wrong, none), func(s *api.Spec) { s.Parent = s.Id }), api.ErrShape},  //
		{but(aLeaf(wrong, none, none), func(s *api.Spec) { s.Packets = 0 }), api.ErrCurve},      // 2 ahead of 3
		{but(aLeaf(wrong, none, none), func(s *api.Spec) { s.Bytes = 1<<24 + 1 }), api.ErrCurve},
		{but(anInner(none, wrong, none), func(s *api.Spec) { s.Packets = 1 }), api.ErrCurve},
		{anInner(wrong, none, none), api.ErrCurve},
		{anInner(straight(1), none, wrong), api.ErrCurve},
		{aLeaf(none, none, wrong), api.ErrCurve},                // 2 ahead of 3 and 4
		{aLeaf(wrong, of(4, 10, 0), none), api.ErrCurve},        // 2 ahead of 4
		{aLeaf(none, of(4, 10, 0), of(2, 0, 0)), api.ErrCurve},  //
		{aLeaf(straight(1), wrong, of(4, 10, 0)), api.ErrCurve}, //
		{aLeaf(straight(9), wrong, straight(3)), api.ErrCurve},  // 2 ahead of 5
		{aLeaf(of(1<<20+1, 1, 1), straight(1), straight(3)), api.ErrCurve},
		{but(aLeaf(straight(9), of(4, 10, 0), straight(3)), func(s *api.Spec) { s.Bytes = 0 }), api.ErrShape},
	} {
		if e := May(x.s); e != x.want {
			t.Errorf("%v: %d, not %d", x.s, e, x.want)
		}
	}
}

// faults are ways to spoil a spec, for each of the five reasons.
func faults() []func(s *api.Spec) {
	return []func(s *api.Spec){
		func(s *api.Spec) { s.Id = 0 },
		func(s *api.Spec) { s.Parent = 65536 },
		func(s *api.Spec) { s.Parent = s.Id },
		func(s *api.Spec) { s.Leaf = !s.Leaf },
		func(s *api.Spec) { s.Packets = 4097 },
		func(s *api.Spec) { s.Bytes = 0 },
		func(s *api.Spec) { s.Packets, s.Bytes = 0, 0 },
		func(s *api.Spec) { s.Real = straight(9) },
		func(s *api.Spec) { s.Real = none },
		func(s *api.Spec) { s.Share = of(4, 10, 0) },
		func(s *api.Spec) { s.Share = none },
		func(s *api.Spec) { s.Upper = of(8, 10, 0) },
		func(s *api.Spec) { s.Real.First++ },
		func(s *api.Spec) { s.Share = wrong },
		func(s *api.Spec) { s.Upper.Rest = s.Upper.First },
	}
}

func TestFaultsTogether(t *testing.T) { // P13.1: all sets of them
	ways := faults()
	for set := range 1 << len(ways) {
		s := aLeaf(of(2, 3, 1), straight(3), of(4, 5, 2))
		for i, way := range ways {
			if set>>i&1 == 1 {
				way(&s)
			}
		}
		judged(t, s)
	}
}

func TestAllSmallCurves(t *testing.T) { // P13.1: any three, of a leaf and of an inner class
	for _, real := range curves() {
		for _, share := range curves() {
			for _, upper := range curves() {
				judged(t, aLeaf(real, share, upper))
				judged(t, anInner(real, share, upper))
			}
		}
	}
}

func TestAllEdges(t *testing.T) { // P13.1
	all := shapes()
	for _, s := range all {
		judged(t, s)
	}
	for _, id := range edges() {
		for _, parent := range edges() {
			for _, s := range all[:600] {
				s.Id, s.Parent = id, parent
				judged(t, s)
			}
		}
	}
}

func TestKindByCurvesAlone(t *testing.T) { // P13.1: whether it may be or not
	for _, s := range shapes() {
		want := kindByWords(s)
		for _, other := range []api.Spec{
			but(s, func(s *api.Spec) { s.Id, s.Parent = -7, -7 }),
			but(s, func(s *api.Spec) { s.Packets, s.Bytes = 0, 0 }),
			but(s, func(s *api.Spec) { s.Packets, s.Bytes = math.MinInt, math.MaxInt }),
			but(s, func(s *api.Spec) { s.Upper = none }),
			but(s, func(s *api.Spec) { s.Upper = wrong }),
		} {
			if kind := Kind(other); kind != want {
				t.Fatalf("kind of %v: %d, not %d", other, kind, want)
			}
		}
	}
}

// whatever are n specs of whatever numbers.
func whatever(chance *rand.Rand, n int) []api.Spec {
	wide := func() uint64 { return chance.Uint64() >> chance.Intn(64) }
	curve := func() api.Curve {
		if chance.Intn(4) == 0 {
			return none
		}
		return of(wide(), wide(), wide())
	}
	l := make([]api.Spec, n)
	for i := range l {
		l[i] = api.Spec{Id: int(wide()), Parent: int(wide()), Leaf: chance.Intn(2) == 0, Real: curve(), Share: curve(), Upper: curve(), Packets: int(wide()), Bytes: int(wide())}
	}
	return l
}

func TestWith(t *testing.T) { // P13.2: of whatever two
	l := append(whatever(rand.New(rand.NewSource(132)), 60), shapes()[:60]...)
	l = append(l, api.Spec{}, api.Spec{Id: -1, Parent: -2, Packets: -3, Bytes: -4}, api.Spec{Id: 9, Leaf: true, Upper: wrong})
	for _, a := range l {
		for _, b := range l {
			want := api.Spec{Id: a.Id, Parent: a.Parent, Leaf: a.Leaf, Packets: a.Packets, Bytes: a.Bytes, Real: b.Real, Share: b.Share, Upper: b.Upper}
			if got := With(a, b); got != want {
				t.Fatalf("%v with those of %v: %v", a, b, got)
			}
		}
		if With(a, a) != a {
			t.Fatalf("%v with its own: %v", a, With(a, a))
		}
	}
}

// texts are specs and the texts that they have.
func texts() map[string]api.Spec {
	return map[string]api.Spec{
		"leaf 5 2 4/10/1 0/0/3 0/0/0 10 1000":              aLeaf(of(4, 10, 1), straight(3), none), // the chapter's own
		"inner 5 2 0/0/0 0/0/3 4/10/1 0 0":                 anInner(none, straight(3), of(4, 10, 1)),
		"inner 0 0 0/0/0 0/0/0 0/0/0 0 0":                  {},
		"leaf 0 0 0/0/0 0/0/0 0/0/0 0 0":                   {Leaf: true},
		"inner 1 0 0/0/0 0/0/0 0/0/0 0 0":                  {Id: 1},
		"inner 0 1 0/0/0 0/0/0 0/0/0 0 0":                  {Parent: 1},
		"inner 0 0 1/0/0 0/0/0 0/0/0 0 0":                  {Real: of(1, 0, 0)},
		"inner 0 0 0/1/0 0/0/0 0/0/0 0 0":                  {Real: of(0, 1, 0)},
		"inner 0 0 0/0/1 0/0/0 0/0/0 0 0":                  {Real: of(0, 0, 1)},
		"inner 0 0 0/0/0 1/0/0 0/0/0 0 0":                  {Share: of(1, 0, 0)},
		"inner 0 0 0/0/0 0/1/0 0/0/0 0 0":                  {Share: of(0, 1, 0)},
		"inner 0 0 0/0/0 0/0/1 0/0/0 0 0":                  {Share: of(0, 0, 1)},
		"inner 0 0 0/0/0 0/0/0 1/0/0 0 0":                  {Upper: of(1, 0, 0)},
		"inner 0 0 0/0/0 0/0/0 0/1/0 0 0":                  {Upper: of(0, 1, 0)},
		"inner 0 0 0/0/0 0/0/0 0/0/1 0 0":                  {Upper: of(0, 0, 1)},
		"inner 0 0 0/0/0 0/0/0 0/0/0 1 0":                  {Packets: 1},
		"inner 0 0 0/0/0 0/0/0 0/0/0 0 1":                  {Bytes: 1},
		"leaf 1 2 3/4/5 6/7/8 9/10/11 12 13":               {Id: 1, Parent: 2, Leaf: true, Real: of(3, 4, 5), Share: of(6, 7, 8), Upper: of(9, 10, 11), Packets: 12, Bytes: 13},
		"leaf 65536 65536 4/0/3 2/2/2 1/0/0 4097 16777217": {Id: 65536, Parent: 65536, Leaf: true, Real: of(4, 0, 3), Share: of(2, 2, 2), Upper: of(1, 0, 0), Packets: 4097, Bytes: 16777217},
		"inner 9223372036854775807 9223372036854775807 18446744073709551615/18446744073709551615/18446744073709551615 0/0/0 18446744073709551615/1/9223372036854775808 9223372036854775807 9223372036854775807": {
			Id: math.MaxInt, Parent: math.MaxInt, Real: of(top, top, top), Upper: of(top, 1, 1<<63), Packets: math.MaxInt, Bytes: math.MaxInt,
		},
	}
}

func TestTextExamples(t *testing.T) { // P13.3: whether they may be or not
	for text, s := range texts() {
		if got, e := Text(s); got != text || e != api.OK {
			t.Errorf("text of %v: %q %d, not %q", s, got, e, text)
		}
	}
}

func TestParseExamples(t *testing.T) { // P13.3
	for text, s := range texts() {
		if got, e := Parse(text); got != s || e != api.OK {
			t.Errorf("%q: %v %d, not %v", text, got, e, s)
		}
	}
}

func TestNoText(t *testing.T) { // P13.3: of each of its four numbers that is below 0, and of some together
	for _, low := range []int{-1, -5, -65535, -1 << 32, math.MinInt + 1, math.MinInt} {
		for _, s := range []api.Spec{{}, aLeaf(of(4, 10, 1), straight(3), none), anInner(none, straight(3), none), {Id: math.MaxInt, Parent: math.MaxInt, Packets: math.MaxInt, Bytes: math.MaxInt}} {
			for set := 1; set < 16; set++ {
				s := s
				for i, n := range []*int{&s.Id, &s.Parent, &s.Packets, &s.Bytes} {
					if set>>i&1 == 1 {
						*n = low
					}
				}
				if text, e := Text(s); text != "" || e != api.ErrArg {
					t.Errorf("text of %v: %q %d", s, text, e)
				}
			}
		}
	}
}

// isNone tells whether nobody has that text.
func isNone(t *testing.T, text string) {
	t.Helper()
	if s, e := Parse(text); s != (api.Spec{}) || e != api.ErrArg {
		t.Errorf("%q: %v %d", text, s, e)
	}
}

// isNoWord tells whether no curve has that word.
func isNoWord(t *testing.T, word string) {
	t.Helper()
	if c, e := Curve(word); c != none || e != api.ErrArg {
		t.Errorf("%q: %v %d", word, c, e)
	}
}

func TestTextOfNone(t *testing.T) { // P13.3
	for _, text := range []string{
		"", " ", "  ", "       ", "        ", // nothing, and blanks alone
		"leaf", "leaf 5", "leaf 5 2", "inner 0 0 0/0/0", "leaf 5 2 4/10/1 0/0/3 0/0/0", "leaf 5 2 4/10/1 0/0/3 0/0/0 10", "inner 0 0 0/0/0 0/0/0 0/0/0 0", // words less
		"5 2 4/10/1 0/0/3 0/0/0 10 1000", "leaf 2 4/10/1 0/0/3 0/0/0 10 1000", "leaf 5 2 0/0/3 0/0/0 10 1000",
		"leaf 5 2 4/10/1 0/0/3 0/0/0 10 1000 1", "leaf 5 2 4/10/1 0/0/3 0/0/0 10 1000 0", "leaf 5 2 4/10/1 0/0/3 0/0/0 0/0/0 10 1000", "leaf 5 2 4/10/1 0/0/3 0/0/0 10 1000 leaf", // words more
		"leaf leaf 5 2 4/10/1 0/0/3 0/0/0 10 1000", "leaf 5 2 4/10/1 0/0/3 0/0/0 10 1000 leaf 5 2 4/10/1 0/0/3 0/0/0 10 1000",
		"leaf  5 2 4/10/1 0/0/3 0/0/0 10 1000", "leaf 5  2 4/10/1 0/0/3 0/0/0 10 1000", "leaf 5 2  4/10/1 0/0/3 0/0/0 10 1000", "leaf 5 2 4/10/1  0/0/3 0/0/0 10 1000", // two blanks
		"leaf 5 2 4/10/1 0/0/3  0/0/0 10 1000", "leaf 5 2 4/10/1 0/0/3 0/0/0  10 1000", "leaf 5 2 4/10/1 0/0/3 0/0/0 10  1000",
		"leaf  2 4/10/1 0/0/3 0/0/0 10 1000", "leaf 5 2 4/10/1  0/0/0 10 1000", "leaf 5 2 4/10/1 0/0/3 0/0/0  1000", " 5 2 4/10/1 0/0/3 0/0/0 10 1000", "leaf 5 2 4/10/1 0/0/3 0/0/0 10 ", // a word that isn't there
		" leaf 5 2 4/10/1 0/0/3 0/0/0 10 1000", "leaf 5 2 4/10/1 0/0/3 0/0/0 10 1000 ", "  inner 0 0 0/0/0 0/0/0 0/0/0 0 0", "inner 0 0 0/0/0 0/0/0 0/0/0 0 0  ", // a blank ahead, behind
		"Leaf 5 2 4/10/1 0/0/3 0/0/0 10 1000", "LEAF 5 2 4/10/1 0/0/3 0/0/0 10 1000", "leaves 5 2 4/10/1 0/0/3 0/0/0 10 1000", "lea 5 2 4/10/1 0/0/3 0/0/0 10 1000", // another first word
		"Inner 0 0 0/0/0 0/0/0 0/0/0 0 0", "innen 0 0 0/0/0 0/0/0 0/0/0 0 0", "inne 0 0 0/0/0 0/0/0 0/0/0 0 0", "root 0 0 0/0/0 0/0/0 0/0/0 0 0", "1 0 0 0/0/0 0/0/0 0/0/0 0 0",
		"class 5 2 4/10/1 0/0/3 0/0/0 10 1000", "leaf\x00 5 2 4/10/1 0/0/3 0/0/0 10 1000", "le\u0430f 5 2 4/10/1 0/0/3 0/0/0 10 1000",
		"leaf 05 2 4/10/1 0/0/3 0/0/0 10 1000", "leaf 5 02 4/10/1 0/0/3 0/0/0 10 1000", "leaf 5 2 04/10/1 0/0/3 0/0/0 10 1000", "leaf 5 2 4/010/1 0/0/3 0/0/0 10 1000", // a nought ahead
		"leaf 5 2 4/10/01 0/0/3 0/0/0 10 1000", "leaf 5 2 4/10/1 00/0/3 0/0/0 10 1000", "leaf 5 2 4/10/1 0/0/3 0/0/00 10 1000", "leaf 5 2 4/10/1 0/0/3 0/0/0 010 1000", "leaf 5 2 4/10/1 0/0/3 0/0/0 10 01000",
		"leaf 00 2 4/10/1 0/0/3 0/0/0 10 1000", "leaf 5 2 4/10/1 0/0/3 0/0/0 10 000000000000000000000000",
		"leaf -5 2 4/10/1 0/0/3 0/0/0 10 1000", "leaf 5 -2 4/10/1 0/0/3 0/0/0 10 1000", "leaf 5 2 -4/10/1 0/0/3 0/0/0 10 1000", "leaf 5 2 4/-10/1 0/0/3 0/0/0 10 1000", // a sign
		"leaf 5 2 4/10/-1 0/0/3 0/0/0 10 1000", "leaf 5 2 4/10/1 0/0/3 -0/0/0 10 1000", "leaf 5 2 4/10/1 0/0/3 0/0/0 -10 1000", "leaf 5 2 4/10/1 0/0/3 0/0/0 10 -1000",
		"leaf +5 2 4/10/1 0/0/3 0/0/0 10 1000", "leaf 5 +2 4/10/1 0/0/3 0/0/0 10 1000", "leaf 5 2 +4/10/1 0/0/3 0/0/0 10 1000", "leaf 5 2 4/10/1 0/0/3 0/0/0 +10 1000", "leaf 5 2 4/10/1 0/0/3 0/0/0 10 +1000",
		"leaf -0 2 4/10/1 0/0/3 0/0/0 10 1000", "leaf 5 +0 4/10/1 0/0/3 0/0/0 10 1000", "leaf 5 2 4/10/1 0/0/3 0/0/0 -0 1000", "leaf - 2 4/10/1 0/0/3 0/0/0 10 1000", "leaf 5 2 4/10/1 0/0/3 0/0/0 + 1000",
		"leaf 9223372036854775808 2 4/10/1 0/0/3 0/0/0 10 1000", "leaf 5 9223372036854775808 4/10/1 0/0/3 0/0/0 10 1000", // too large by one
		"leaf 5 2 4/10/1 0/0/3 0/0/0 9223372036854775808 1000", "leaf 5 2 4/10/1 0/0/3 0/0/0 10 9223372036854775808",
		"leaf 5 2 18446744073709551616/10/1 0/0/3 0/0/0 10 1000", "leaf 5 2 4/10/1 0/18446744073709551616/3 0/0/0 10 1000", "leaf 5 2 4/10/1 0/0/3 0/0/18446744073709551616 10 1000",
		"leaf 18446744073709551621 2 4/10/1 0/0/3 0/0/0 10 1000", "leaf 5 2 18446744073709551620/10/1 0/0/3 0/0/0 10 1000", // which would turn round to 5, to 4
		"leaf 18446744073709551615 2 4/10/1 0/0/3 0/0/0 10 1000", "leaf -9223372036854775808 2 4/10/1 0/0/3 0/0/0 10 1000",
		"leaf 5 2 4/10 0/0/3 0/0/0 10 1000", "leaf 5 2 4/10/1 0/0/3/0 0/0/0 10 1000", "leaf 5 2 4/10/1 0/0/3 0 10 1000", "leaf 5 2 4/10/1/ 0/0/3 0/0/0 10 1000", "leaf 5 2 /10/1 0/0/3 0/0/0 10 1000", // parts more, less
		"leaf 5 2 4//1 0/0/3 0/0/0 10 1000", "leaf 5 2 4/10/ 0/0/3 0/0/0 10 1000", "leaf 5 2 // 0/0/3 0/0/0 10 1000", "leaf 5 2 4/10/1 0/0/3 x 10 1000", "leaf 5 2 4/ 10/1 0/0/3 0/0/0 10 1000",
		"leaf 5 2 4/10/1 x/0/3 0/0/0 10 1000", "leaf 5 2 4/10/1 0/0/3 - 10 1000", "leaf 5 2 4/10/1 0/0/3 0/0/0/10 1000", "leaf 5/2 4/10/1 0/0/3 0/0/0 10 1000", "leaf/5 2 4/10/1 0/0/3 0/0/0 10 1000",
		"leaf x 2 4/10/1 0/0/3 0/0/0 10 1000", "leaf 5 y 4/10/1 0/0/3 0/0/0 10 1000", "leaf 5 2 4/10/1 0/0/3 0/0/0 z 1000", "leaf 5 2 4/10/1 0/0/3 0/0/0 10 1e3", "leaf 0x5 2 4/10/1 0/0/3 0/0/0 10 1000", // other signs
		"leaf 5 2 4/10/1 0/0/3 0/0/0 10 1_000", "leaf 5.0 2 4/10/1 0/0/3 0/0/0 10 1000", "leaf 5 2 4:10:1 0/0/3 0/0/0 10 1000", "leaf,5,2,4/10/1,0/0/3,0/0/0,10,1000", "leaf 5 2 0/0/0 0/0/0 0/0/x 10 1000",
		"leaf\t5 2 4/10/1 0/0/3 0/0/0 10 1000", "leaf 5 2 4/10/1 0/0/3 0/0/0 10 1000\n", "\nleaf 5 2 4/10/1 0/0/3 0/0/0 10 1000", "leaf 5 2 4/10/1 0/0/3 0/0/0 10 1000\x00", "\ufeffleaf 5 2 4/10/1 0/0/3 0/0/0 10 1000",
		"leaf 5\u00a02 4/10/1 0/0/3 0/0/0 10 1000", "leaf \uff15 2 4/10/1 0/0/3 0/0/0 10 1000", "leaf 5 2 4/10/\u0661 0/0/3 0/0/0 10 1000", "leaf \xff 2 4/10/1 0/0/3 0/0/0 10 1000",
		"4/10/1", "0/0/0", "7 3 100 12", "leaf 2 5 10 1000 4/10/1 0/0/3 0/0/0", "leaf 4/10/1 0/0/3 0/0/0 5 2 10 1000",
	} {
		isNone(t, text)
	}
}

func TestCurveExamples(t *testing.T) { // P13.3: whether it may be or not
	for word, c := range map[string]api.Curve{
		"4/10/1": of(4, 10, 1), // the chapter's own
		"0/0/0":  none, "1/0/0": of(1, 0, 0), "0/1/0": of(0, 1, 0), "0/0/1": straight(1), "1/2/3": of(1, 2, 3), "4/0/3": wrong, "2/2/2": of(2, 2, 2),
		"100/200/1000": of(100, 200, 1000), "1048576/1099511627776/0": of(1<<20, 1<<40, 0), "1048577/1099511627777/5": of(1<<20+1, 1<<40+1, 5),
		"9223372036854775807/9223372036854775808/9223372036854775809":    of(1<<63-1, 1<<63, 1<<63+1),
		"18446744073709551615/18446744073709551615/18446744073709551615": of(top, top, top), "18446744073709551614/0/10": of(top-1, 0, 10),
	} {
		if got, e := Curve(word); got != c || e != api.OK {
			t.Errorf("%q: %v %d, not %v", word, got, e, c)
		}
	}
}

func TestWordOfNone(t *testing.T) { // P13.3
	for _, word := range []string{
		"", "/", "//", "///", "0", "4", "4/10", "4/", "/4", "4/10/1/1", "4/10/1/", "/4/10/1", "4//1", "4/10/", "/10/1", "4//10/1", "0/0", "0/0/0/0", // parts more, less, empty ones
		"04/10/1", "4/010/1", "4/10/01", "00/0/0", "0/00/0", "0/0/00", "0/0/0000000000000000000000000", // a nought ahead
		"-4/10/1", "4/-10/1", "4/10/-1", "+4/10/1", "4/+10/1", "4/10/+1", "-0/0/0", "0/+0/0", "0/0/-", "-/0/0", // a sign
		" 4/10/1", "4/10/1 ", "4 /10/1", "4/ 10/1", "4/10 1", "4 10 1", " ", "4/10/1 0/0/3", // a blank
		"18446744073709551616/10/1", "4/18446744073709551616/1", "4/10/18446744073709551616", "4/10/18446744073709551617", "99999999999999999999999/0/0", // too large
		"x/10/1", "4/x/1", "4/10/x", "a4/10/1", "4/10/1a", "0x4/10/1", "4/1e1/1", "4/1_0/1", "4.0/10/1", "4\\10\\1", "4:10:1", "4,10,1", // other signs
		"4/10/1\n", "\t4/10/1", "4/10/1\x00", "\x004/10/1", "4\u204410\u20441", "\u0664/10/1", "4/10/\xff", "\xff", "none", "nil", "leaf",
	} {
		isNoWord(t, word)
	}
}

// like is a text as that one, with a number in each N's place.
func like(text string) *regexp.Regexp {
	return regexp.MustCompile(`\A` + strings.ReplaceAll(text, "N", "(0|[1-9][0-9]*)") + `\z`)
}

// row and triple are what a text and a curve's word have to look like.
var (
	row    = like("(leaf|inner) N N N/N/N N/N/N N/N/N N N")
	triple = like("N/N/N")
)

// small is the number, if it is at most that, and whether it is.
func small(digits string, most uint64) (uint64, bool) {
	n, _ := new(big.Int).SetString(digits, 10)
	return n.Uint64(), n.Cmp(new(big.Int).SetUint64(most)) <= 0
}

// readByWords is the spec whose text it is, by the chapter's words, in big numbers, and whether there is one.
func readByWords(text string) (s api.Spec, is bool) {
	found := row.FindStringSubmatch(text)
	if found == nil {
		return api.Spec{}, false
	}
	var n [13]uint64
	for i := range n {
		most := uint64(top)
		if i < 2 || i > 10 {
			most = math.MaxInt
		}
		if n[i], is = small(found[i+2], most); !is {
			return api.Spec{}, false
		}
	}
	return api.Spec{
		Leaf: found[1] == "leaf", Id: int(n[0]), Parent: int(n[1]),
		Real: of(n[2], n[3], n[4]), Share: of(n[5], n[6], n[7]), Upper: of(n[8], n[9], n[10]),
		Packets: int(n[11]), Bytes: int(n[12]),
	}, true
}

// reads holds what is parsed of the text against the words, and tells it again (P13.3, P13.4).
func reads(t *testing.T, text string) {
	t.Helper()
	want, is := readByWords(text)
	if !is {
		isNone(t, text)
		return
	}
	s, e := Parse(text)
	if s != want || e != api.OK {
		t.Fatalf("%q: %v %d, not %v", text, s, e, want)
	}
	if again, e := Text(s); again != text || e != api.OK {
		t.Fatalf("%q is told as %q %d", text, again, e)
	}
}

// readsWord does so with a curve's word.
func readsWord(t *testing.T, word string) {
	t.Helper()
	found := triple.FindStringSubmatch(word)
	var n [3]uint64
	is := found != nil
	for i := 0; is && i < 3; i++ {
		n[i], is = small(found[i+1], top)
	}
	if !is {
		isNoWord(t, word)
		return
	}
	if c, e := Curve(word); c != of(n[0], n[1], n[2]) || e != api.OK {
		t.Fatalf("%q: %v %d", word, c, e)
	}
}

func TestEachShortWord(t *testing.T) { // P13.3
	signs := []byte("01/- ")
	s := []byte{}
	var longer func(n int)
	longer = func(n int) {
		readsWord(t, string(s))
		if n == 0 {
			return
		}
		for _, sign := range signs {
			s = append(s, sign)
			longer(n - 1)
			s = s[:len(s)-1]
		}
	}
	longer(8)
}

// nearly are the texts that are like that one, but for a sign more, less, or another one, wherever.
func nearly(text string) []string {
	var l []string
	for i := range len(text) + 1 {
		l = append(l, text[:i], text[i:])
		for _, sign := range []byte(" 0123456789+-x_./:;\t\n\x00\x7f\x80\xff") {
			l = append(l, text[:i]+string([]byte{sign})+text[i:])
			if i < len(text) {
				l = append(l, text[:i]+string([]byte{sign})+text[i+1:])
			}
		}
		if i < len(text) {
			l = append(l, text[:i]+text[i+1:])
		}
	}
	return l
}

func TestTextsThatAreNearlySome(t *testing.T) { // P13.3, P13.4
	for text := range texts() {
		for _, other := range nearly(text) {
			reads(t, other)
		}
	}
	for _, word := range []string{"4/10/1", "0/0/0", "10/20/30", "18446744073709551615/18446744073709551615/18446744073709551615"} {
		for _, other := range nearly(word) {
			readsWord(t, other)
			reads(t, "leaf 5 2 "+other+" 0/0/3 0/0/0 10 1000")
			reads(t, "leaf 5 2 4/10/1 "+other+" 0/0/0 10 1000")
			reads(t, "leaf 5 2 4/10/1 0/0/3 "+other+" 10 1000")
		}
	}
}

func TestWordsElsewhere(t *testing.T) { // P13.3: each word in each place, dropped, and told twice
	words := strings.Split("leaf 5 2 4/10/1 0/0/3 1/2/9 10 1000", " ")
	for i := range words {
		for j := range words {
			other := append([]string{}, words...)
			other[i], other[j] = other[j], other[i]
			reads(t, strings.Join(other, " "))
			other = append([]string{}, words...)
			other[i] = words[j]
			reads(t, strings.Join(other, " "))
			other = append(other[:i], append([]string{words[j]}, words[i:]...)...)
			isNone(t, strings.Join(other, " "))
		}
		isNone(t, strings.Join(append(append([]string{}, words[:i]...), words[i+1:]...), " "))
		isNone(t, strings.Join(words, " ")[:len(strings.Join(words[:i], " "))])
	}
}

func TestNumbersAtTheirEnds(t *testing.T) { // P13.3, P13.4: whichever of the thirteen
	between := strings.Split("leaf % % %/%/% %/%/% %/%/% % %", "%")
	for place := range 13 {
		with := func(digits string) string {
			all := between[0]
			for i, behind := range between[1:] {
				if i == place {
					all += digits + behind
				} else {
					all += strconv.Itoa(i) + behind
				}
			}
			return all
		}
		for _, bits := range []uint{0, 8, 16, 31, 32, 53, 62, 63, 64, 65, 66, 127, 128, 129, 192, 256} {
			for off := int64(-3); off <= 3; off++ {
				n := new(big.Int).Lsh(big.NewInt(1), bits)
				reads(t, with(n.Add(n, big.NewInt(off)).String()))
			}
		}
		for digits := range 45 {
			ten := "1" + strings.Repeat("0", digits)
			reads(t, with(ten))
			reads(t, with(ten[1:]))
			reads(t, with(strings.Repeat("9", digits)))
		}
	}
}

// byWords is a spec's text, by the chapter's words, signs and all.
func byWords(s api.Spec) string {
	text := "inner"
	if s.Leaf {
		text = "leaf"
	}
	text += " " + strconv.Itoa(s.Id) + " " + strconv.Itoa(s.Parent)
	for _, c := range []api.Curve{s.Real, s.Share, s.Upper} {
		text += " " + strconv.FormatUint(c.First, 10) + "/" + strconv.FormatUint(c.Length, 10) + "/" + strconv.FormatUint(c.Rest, 10)
	}
	return text + " " + strconv.Itoa(s.Packets) + " " + strconv.Itoa(s.Bytes)
}

func TestThereAndBack(t *testing.T) { // P13.4: of specs that may be, and of ones that may not
	chance := rand.New(rand.NewSource(134))
	l := append(whatever(chance, 20000), shapes()...)
	for _, s := range l[20000:20040] {
		for _, id := range edges() {
			for _, parent := range edges() {
				s.Id, s.Parent = id, parent
				l = append(l, s)
			}
		}
	}
	for _, s := range l {
		text, e := Text(s)
		if s.Id < 0 || s.Parent < 0 || s.Packets < 0 || s.Bytes < 0 {
			if text != "" || e != api.ErrArg {
				t.Fatalf("text of %v: %q %d", s, text, e)
			}
			isNone(t, byWords(s))
			continue
		}
		if text != byWords(s) || e != api.OK {
			t.Fatalf("text of %v: %q %d", s, text, e)
		}
		if again, e := Parse(text); again != s || e != api.OK {
			t.Fatalf("%v is read from its text as %v %d", s, again, e)
		}
		for i, c := range []api.Curve{s.Real, s.Share, s.Upper} {
			if got, e := Curve(strings.Split(text, " ")[3+i]); got != c || e != api.OK {
				t.Fatalf("%v is read from its word as %v %d", c, got, e)
			}
		}
	}
}

func TestLongTexts(t *testing.T) { // P13.3
	const n = 1 << 16
	for _, s := range []string{"0", "1", "9", " ", "/", "x", "1 ", "1/", "0/0/0 ", "leaf ", "leaf 5 2 4/10/1 0/0/3 0/0/0 10 1000 ", "\xff"} {
		long := strings.Repeat(s, n)
		isNone(t, long)
		isNone(t, "leaf 5 2 4/10/1 0/0/3 0/0/0 10 1000"+long)
		isNone(t, "leaf 5 2 4/10/1 0/0/3 0/0/0 10 "+long)
		isNone(t, "leaf 5 2 "+long+" 0/0/3 0/0/0 10 1000")
		isNone(t, long+" 5 2 4/10/1 0/0/3 0/0/0 10 1000")
		isNoWord(t, long)
		isNoWord(t, "4/10/"+long)
		isNoWord(t, long+"/10/1")
	}
}

func TestKindsOfWhatMayBe(t *testing.T) { // P13.5
	seen := map[uint8]int{}
	l := shapes()
	for _, real := range curves() {
		for _, share := range curves() {
			for _, upper := range curves() {
				l = append(l, aLeaf(real, share, upper), anInner(real, share, upper))
			}
		}
	}
	for _, s := range l {
		if May(s) != api.OK {
			continue
		}
		kind := Kind(s)
		seen[kind]++
		if kind < KnReal || kind > KnInner {
			t.Fatalf("%v may be, and is of the kind %d", s, kind)
		}
		if hasNoQueue := s.Packets == 0 && s.Bytes == 0; hasNoQueue != (kind == KnInner) {
			t.Fatalf("%v is of the kind %d", s, kind)
		}
		less := s
		less.Upper = none
		if e := May(less); e != api.OK {
			t.Fatalf("%v may be, without its Upper curve %d", s, e)
		}
		if Kind(less) != kind {
			t.Fatalf("%v is of the kind %d, without its Upper curve of %d", s, kind, Kind(less))
		}
	}
	for kind := KnReal; kind <= KnInner; kind++ {
		if seen[kind] < 10 {
			t.Errorf("of the kind %d only %d may be", kind, seen[kind])
		}
	}
}

func TestWhoever(t *testing.T) { // P13.6
	pairs := [][2]int{{1, 0}, {1, 2}, {2, 1}, {1, 65535}, {65535, 0}, {65535, 1}, {65535, 65534}, {65534, 65535}, {5, 2}, {300, 4096}}
	for _, s := range shapes() {
		want := May(but(s, func(s *api.Spec) { s.Id, s.Parent = 7, 3 }))
		for _, pair := range pairs {
			s.Id, s.Parent = pair[0], pair[1]
			if e := May(s); e != want {
				t.Fatalf("%v: %d, of others %d", s, e, want)
			}
		}
	}
}
