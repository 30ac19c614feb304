package octet

import (
	"math"
	"math/big"
	"math/rand"
	"slices"
	"strings"
	"testing"

	"distributary/api"
)

// bytesOf are the bytes of a number, by the chapter's words.
func bytesOf(n *big.Int) string {
	var b []byte
	rest, part := new(big.Int).Set(n), new(big.Int)
	for {
		rest.DivMod(rest, big.NewInt(128), part)
		if rest.Sign() == 0 {
			return string(append(b, byte(part.Int64())))
		}
		b = append(b, byte(part.Int64()+128))
	}
}

func numBytes(n uint64) string { return bytesOf(new(big.Int).SetUint64(n)) }

// intBytes are the bytes of a signed number, by the chapter's words.
func intBytes(n int) string {
	b := big.NewInt(int64(n))
	if n >= 0 {
		return bytesOf(b.Lsh(b, 1))
	}
	b.Neg(b)
	b.Lsh(b, 1)
	return bytesOf(b.Sub(b, big.NewInt(1)))
}

// numberAt is the number at the beginning of s, and how many bytes it has; no, if there is none.
func numberAt(s string) (n uint64, many int, is bool) {
	sum, place := new(big.Int), big.NewInt(1)
	for i := range len(s) {
		part := big.NewInt(int64(s[i] % 128))
		sum.Add(sum, part.Mul(part, place))
		place.Lsh(place, 7)
		if s[i] < 128 {
			if i > 0 && s[i] == 0 || !sum.IsUint64() {
				return 0, 0, false
			}
			return sum.Uint64(), i + 1, true
		}
	}
	return 0, 0, false
}

// Kinds of things.
const (
	aByte = iota
	aNum
	anInt
	aFlag
	kinds // how many there are
)

// thing is one that is written and read. A signed number stands in n by its bits, a flag as 0 or 1.
type thing struct {
	kind int
	n    uint64
}

func (x thing) write(p *Pen) {
	switch x.kind {
	case aByte:
		p.Byte(uint8(x.n))
	case aNum:
		p.Num(x.n)
	case anInt:
		p.Int(int(x.n))
	case aFlag:
		p.Flag(x.n == 1)
	}
}

// bytes are the thing's, by the chapter's words.
func (x thing) bytes() string {
	switch x.kind {
	case aNum:
		return numBytes(x.n)
	case anInt:
		return intBytes(int(x.n))
	}
	return string([]byte{byte(x.n)})
}

// read is what the eye reads, of that kind.
func read(e *Eye, kind int) thing {
	switch kind {
	case aByte:
		return thing{kind, uint64(e.Byte())}
	case aNum:
		return thing{kind, e.Num()}
	case anInt:
		return thing{kind, uint64(e.Int())}
	}
	if e.Flag() {
		return thing{kind, 1}
	}
	return thing{kind, 0}
}

// thingAt is the thing of that kind at the beginning of s, by the chapter's words, and how many bytes it has; no, if there is none.
func thingAt(s string, kind int) (x thing, many int, is bool) {
	n := new(big.Int)
	switch kind {
	case aNum, anInt:
		u, many, is := numberAt(s)
		if !is || kind == aNum {
			return thing{kind, u}, many, is
		}
		n.SetUint64(u)
		if u%2 == 1 { // twice what is to be added to it for 0, less 1
			n.Neg(n.Add(n, big.NewInt(1)))
		}
		return thing{kind, uint64(n.Quo(n, big.NewInt(2)).Int64())}, many, true
	}
	if s == "" || kind == aFlag && s[0] > 1 {
		return thing{kind, 0}, 0, false
	}
	return thing{kind, uint64(s[0])}, 1, true
}

// numbers are those at the edges: the greatest of so many bits, and of so many bytes, the least of one more, and those beside them.
func numbers() []uint64 {
	l := []uint64{0, 127, 128, 300, 16383, 16384, math.MaxUint64}
	for k := range 64 {
		n := uint64(1) << k
		l = append(l, n-1, n, n+1, n|1<<63, math.MaxUint64-n)
	}
	return l
}

// signed are such numbers on both sides of 0.
func signed() []int {
	l := []int{0, -1, 1, -2, 2, -64, 64, -65, 63, math.MaxInt, math.MinInt, math.MinInt + 1}
	for _, n := range numbers() {
		l = append(l, int(n), -int(n))
	}
	return l
}

// things are some of each kind.
func things() []thing {
	l := []thing{{aFlag, 0}, {aFlag, 1}}
	for b := range 256 {
		l = append(l, thing{aByte, uint64(b)})
	}
	for _, n := range numbers() {
		l = append(l, thing{aNum, n})
	}
	for _, n := range signed() {
		l = append(l, thing{anInt, uint64(n)})
	}
	return l
}

// written is what a pen tells that wrote those.
func written(t *testing.T, l ...thing) string {
	t.Helper()
	var p Pen
	for _, x := range l {
		x.write(&p)
	}
	s, e := p.Done()
	if e != api.OK {
		t.Fatalf("%v: %d", l, e)
	}
	return s
}

// wants holds what an eye tells of itself against that: so many bytes left, not failed.
func wants(t *testing.T, e *Eye, left int) {
	t.Helper()
	end := api.OK
	if left > 0 {
		end = api.ErrCode
	}
	for range 2 { // to ask changes nothing
		if e.Failed() || e.Left() != left || e.End() != end {
			t.Fatalf("failed %v, %d left, not %d, %d", e.Failed(), e.Left(), left, e.End())
		}
	}
}

// failed wants an eye that has failed, whatever it is asked, and in whatever order.
func failed(t *testing.T, e *Eye) {
	t.Helper()
	for first := range kinds {
		for second := range kinds {
			for _, kind := range []int{first, second} {
				if !e.Failed() || e.Left() != 0 || e.End() != api.ErrCode {
					t.Fatalf("failed %v, %d left, %d", e.Failed(), e.Left(), e.End())
				}
				if x := read(e, kind); x.n != 0 {
					t.Fatalf("%v is read of an eye that has failed", x)
				}
			}
		}
		e.Fail()
	}
}

// reads holds what is read of s, of that kind, against the chapter's words, and the eye behind it.
func reads(t *testing.T, s string, kind int) {
	t.Helper()
	want, many, is := thingAt(s, kind)
	e := Open(s)
	if x := read(e, kind); x != want {
		t.Fatalf("%q: %v, not %v", s, x, want)
	}
	if !is {
		failed(t, e)
		return
	}
	wants(t, e, len(s)-many)
}

// none wants that s has no number at its beginning, signed or not.
func none(t *testing.T, s string) {
	t.Helper()
	for _, kind := range []int{aNum, anInt} {
		e := Open(s)
		if x := read(e, kind); x.n != 0 {
			t.Fatalf("%q: %v", s, x)
		}
		failed(t, e)
	}
}

func TestNumExamples(t *testing.T) { // P14.1, P14.2: the chapter's own, and each number of bytes at its ends
	for _, x := range []struct {
		n     uint64
		bytes string
	}{
		{300, "\xac\x02"},
		{0, "\x00"},
		{128, "\x80\x01"},
		{1, "\x01"},
		{127, "\x7f"},
		{16383, "\xff\x7f"},
		{16384, "\x80\x80\x01"},
		{1<<21 - 1, "\xff\xff\x7f"},
		{1 << 21, "\x80\x80\x80\x01"},
		{1<<28 - 1, "\xff\xff\xff\x7f"},
		{1 << 28, "\x80\x80\x80\x80\x01"},
		{1<<35 - 1, "\xff\xff\xff\xff\x7f"},
		{1 << 35, "\x80\x80\x80\x80\x80\x01"},
		{1<<42 - 1, "\xff\xff\xff\xff\xff\x7f"},
		{1 << 42, "\x80\x80\x80\x80\x80\x80\x01"},
		{1<<49 - 1, "\xff\xff\xff\xff\xff\xff\x7f"},
		{1 << 49, "\x80\x80\x80\x80\x80\x80\x80\x01"},
		{1<<56 - 1, "\xff\xff\xff\xff\xff\xff\xff\x7f"},
		{1 << 56, "\x80\x80\x80\x80\x80\x80\x80\x80\x01"},
		{1<<63 - 1, "\xff\xff\xff\xff\xff\xff\xff\xff\x7f"},
		{1 << 63, "\x80\x80\x80\x80\x80\x80\x80\x80\x80\x01"},
		{1<<64 - 1, "\xff\xff\xff\xff\xff\xff\xff\xff\xff\x01"},
	} {
		if s := written(t, thing{aNum, x.n}); s != x.bytes {
			t.Errorf("%d: %q, not %q", x.n, s, x.bytes)
		}
		e := Open(x.bytes)
		if n := e.Num(); n != x.n || e.End() != api.OK {
			t.Errorf("%q: %d, not %d", x.bytes, n, x.n)
		}
	}
}

func TestIntExamples(t *testing.T) { // P14.1, P14.2: the chapter's own, and the least and the greatest
	for _, x := range []struct {
		n     int
		bytes string
	}{
		{-1, "\x01"},
		{1, "\x02"},
		{-2, "\x03"},
		{0, "\x00"},
		{2, "\x04"},
		{63, "\x7e"},
		{-64, "\x7f"},
		{64, "\x80\x01"},
		{-65, "\x81\x01"},
		{math.MaxInt, "\xfe\xff\xff\xff\xff\xff\xff\xff\xff\x01"},
		{math.MinInt, "\xff\xff\xff\xff\xff\xff\xff\xff\xff\x01"},
		{math.MinInt + 1, "\xfd\xff\xff\xff\xff\xff\xff\xff\xff\x01"},
	} {
		if s := written(t, thing{anInt, uint64(x.n)}); s != x.bytes {
			t.Errorf("%d: %q, not %q", x.n, s, x.bytes)
		}
		e := Open(x.bytes)
		if n := e.Int(); n != x.n || e.End() != api.OK {
			t.Errorf("%q: %d, not %d", x.bytes, n, x.n)
		}
	}
}

func TestFlag(t *testing.T) { // P14.1, P14.2: 0, 1, and each other byte
	for b, flag := range []bool{false, true} {
		if s := written(t, thing{aFlag, uint64(b)}); s != string([]byte{byte(b)}) {
			t.Errorf("%v: %q", flag, s)
		}
	}
	for b := range 256 {
		e := Open(string([]byte{byte(b), 1}))
		if flag := e.Flag(); flag != (b == 1) {
			t.Errorf("%d: %v", b, flag)
		}
		if b > 1 {
			failed(t, e)
			continue
		}
		wants(t, e, 1)
	}
}

func TestByte(t *testing.T) { // P14.1, P14.2: each one
	all := make([]byte, 256)
	var p Pen
	for b := range all {
		all[b] = byte(b)
		p.Byte(byte(b))
	}
	s, code := p.Done()
	if s != string(all) || code != api.OK {
		t.Fatalf("%q %d", s, code)
	}
	e := Open(s)
	for b := range all {
		if x := e.Byte(); x != byte(b) {
			t.Errorf("%d, not %d", x, b)
		}
		wants(t, e, len(all)-b-1)
	}
	if x := e.Byte(); x != 0 {
		t.Errorf("%d behind all", x)
	}
	failed(t, e)
}

func TestEachThing(t *testing.T) { // P14.1, P14.4, P14.6: alone, with bytes behind, and with fewer
	for _, x := range things() {
		s := written(t, x)
		if s != x.bytes() {
			t.Fatalf("%v: %q, not %q", x, s, x.bytes())
		}
		for _, behind := range []string{"", "\x00", "\x01", "\x80", "\xff\xff", strings.Repeat("\x80", 20)} {
			e := Open(s + behind)
			if got := read(e, x.kind); got != x {
				t.Fatalf("%q: %v, not %v", s+behind, got, x)
			}
			wants(t, e, len(behind))
		}
		for many := range len(s) {
			e := Open(s[:many])
			if got := read(e, x.kind); got.n != 0 {
				t.Fatalf("%q: %v", s[:many], got)
			}
			failed(t, e)
		}
	}
}

func TestNothingWritten(t *testing.T) { // P14.1
	var p Pen
	for range 2 {
		if s, e := p.Done(); s != "" || e != api.OK {
			t.Errorf("%q %d", s, e)
		}
	}
	p.Byte(0)
	if s, e := p.Done(); s != "\x00" || e != api.OK {
		t.Errorf("%q %d", s, e)
	}
}

func TestMost(t *testing.T) { // P14.1: MaxOut bytes, and one more, by each kind of thing
	if MaxOut != 4096 {
		t.Fatal(MaxOut)
	}
	l := []thing{{aByte, 0}, {aByte, 255}, {aFlag, 0}, {aFlag, 1}}
	for k := range 10 { // of each number of bytes
		n := uint64(1) << (7 * k)
		l = append(l, thing{aNum, n}, thing{anInt, n / 2}, thing{anInt, -n / 2})
	}
	for _, x := range l {
		many := len(x.bytes())
		for left := range many + 2 { // by how many bytes fewer than MaxOut the pen wrote ahead of the thing
			ahead := strings.Repeat("x", MaxOut-left)
			var p Pen
			for i := range len(ahead) {
				p.Byte(ahead[i])
			}
			if s, e := p.Done(); s != ahead || e != api.OK {
				t.Fatalf("%d bytes, not %d, %d", len(s), len(ahead), e)
			}
			x.write(&p)
			s, e := p.Done()
			if left < many && (s != "" || e != api.ErrLong) {
				t.Fatalf("%v with room for %d: %d bytes, %d", x, left, len(s), e)
			}
			if left >= many && (s != ahead+x.bytes() || e != api.OK) {
				t.Fatalf("%v with room for %d: %d bytes, %d", x, left, len(s), e)
			}
		}
	}
}

func TestTooLongForEver(t *testing.T) { // P14.1: whatever is written behind it
	var p Pen
	for range MaxOut {
		p.Byte(7)
	}
	for i := range 3 * MaxOut {
		p.Byte(uint8(i))
		if s, e := p.Done(); s != "" || e != api.ErrLong {
			t.Fatalf("%d bytes more: %d bytes, %d", i+1, len(s), e)
		}
	}
	for _, x := range things() {
		x.write(&p)
		if s, e := p.Done(); s != "" || e != api.ErrLong {
			t.Fatalf("%v more: %d bytes, %d", x, len(s), e)
		}
	}
}

func TestBehindDone(t *testing.T) { // P14.1: more may be written; what was told stays as it was
	var p Pen
	var told, wanted []string
	all := ""
	for _, x := range things() {
		if all += x.bytes(); len(all) > MaxOut {
			break
		}
		x.write(&p)
		s, e := p.Done()
		if s != all || e != api.OK {
			t.Fatalf("%v: %q, not %q, %d", x, s, all, e)
		}
		told, wanted = append(told, s), append(wanted, strings.Clone(all))
	}
	if !slices.Equal(told, wanted) {
		t.Error("what was told changed")
	}
}

func TestPensApart(t *testing.T) { // P14.1: one that is copied, by what is written with it and not with the other one
	var p Pen
	for i := range 40 {
		ahead, _ := p.Done()
		q := p
		p.Num(300)
		q.Int(-1)
		if s, e := p.Done(); s != ahead+"\xac\x02" || e != api.OK {
			t.Fatalf("%d: %q %d", i, s, e)
		}
		if s, e := q.Done(); s != ahead+"\x01" || e != api.OK {
			t.Fatalf("%d: the other one %q %d", i, s, e)
		}
	}
}

func TestNilPen(t *testing.T) { // P14.1: each of its functions
	var p *Pen
	for range 2 {
		for _, x := range things() {
			x.write(p)
			if s, e := p.Done(); s != "" || e != api.ErrNil {
				t.Fatalf("%v: %q %d", x, s, e)
			}
		}
	}
}

func TestNilEye(t *testing.T) { // P14.3: it has failed
	var e *Eye
	failed(t, e)
	e.Fail()
	failed(t, e)
}

func TestEmpty(t *testing.T) { // P14.2, P14.3: the empty bytes
	for kind := range kinds {
		for _, e := range []*Eye{Open(""), {}} {
			wants(t, e, 0)
			if x := read(e, kind); x.n != 0 {
				t.Errorf("%v of nothing", x)
			}
			failed(t, e)
		}
	}
}

func TestNoNumber(t *testing.T) { // P14.2
	long := strings.Repeat("\x80", 9)
	full := strings.Repeat("\xff", 9)
	for _, s := range []string{
		"", "\x80", "\xff", "\xac", "\x80\x80", "\xff\xff\xff", long, full, long + "\x80", full + "\xff", // too early
		"\x80\x00", "\xff\x00", "\xac\x00", "\x80\x80\x00", "\xac\x82\x00", long + "\x00", full + "\x00", // a 0 too many
		long + "\x02", full + "\x02", long + "\x03", long + "\x40", full + "\x7f", // by the tenth byte
		long + "\x80\x01", full + "\xff\x01", long + "\x81\x01", full + "\x81\x7f", long + "\x80\x02", // by an eleventh
		long + "\x80\x00", full + "\xff\x00", long + "\x81\x00", full + "\x81\x00", // an eleventh that is a 0 too many
		long + "\x80\x80\x01", long + long + "\x01", long + "\x81\x80\x80\x00", // by one behind that
		strings.Repeat("\x80", 100) + "\x01", strings.Repeat("\x80", 1<<20), strings.Repeat("\xff", 1<<20) + "\x01",
	} {
		none(t, s)
		if s != "" && s[len(s)-1] < 128 { // it has come to its end: bytes behind make it none else
			none(t, s+"\x00")
			none(t, s+"\x01\x02\x03")
		}
	}
}

func TestTenthByte(t *testing.T) { // P14.2: each one, and each eleventh behind it
	for _, first := range []string{strings.Repeat("\x80", 9), strings.Repeat("\xff", 9), "\x80\xff\x81\xfe\x80\x80\xc0\xaa\xd5"} {
		for b := range 256 {
			s := first + string([]byte{byte(b)})
			for _, kind := range []int{aNum, anInt} {
				reads(t, s, kind)
				for c := range 256 {
					reads(t, s+string([]byte{byte(c)}), kind)
				}
			}
			if e := Open(s); (b == 1) == (e.Num() == 0) {
				t.Errorf("%q is one: %v", s, !e.Failed())
			}
		}
	}
}

func TestEachShort(t *testing.T) { // P14.2: all of up to two bytes, and longer ones of bytes at the edges
	all := make([]byte, 256)
	for b := range all {
		all[b] = byte(b)
	}
	for _, x := range []struct {
		of   []byte
		most int
	}{
		{all, 2},
		{[]byte{0, 1, 2, 126, 127, 128, 129, 254, 255}, 4},
		{[]byte{0, 1, 128, 255}, 7},
		{[]byte{0, 128}, 12},
	} {
		l := []string{""}
		for range x.most {
			var longer []string
			for _, s := range l {
				for _, b := range x.of {
					longer = append(longer, s+string([]byte{b}))
				}
			}
			l = longer
			for _, s := range l {
				for kind := range kinds {
					reads(t, s, kind)
				}
			}
		}
	}
}

func TestFail(t *testing.T) { // P14.3: at the beginning, in the midst, and at the end
	l := []thing{{aNum, 300}, {aFlag, 1}, {anInt, 5}, {aByte, 200}, {aNum, math.MaxUint64}}
	s := written(t, l...)
	for many := range len(l) + 1 {
		e := Open(s)
		left := len(s)
		for _, x := range l[:many] {
			if got := read(e, x.kind); got != x {
				t.Fatalf("%v, not %v", got, x)
			}
			left -= len(x.bytes())
			wants(t, e, left)
		}
		e.Fail()
		failed(t, e)
	}
}

func TestFromAFailureOn(t *testing.T) { // P14.2, P14.3: whatever it was, and whatever would be behind it
	for _, x := range []struct {
		bytes string
		kind  int
	}{
		{"", aByte},
		{"", aFlag},
		{"\x02", aFlag},
		{"\xff", aFlag},
		{"\x80\x00", aNum},
		{"\x80\x00", anInt},
		{"\xff\xff\xff\xff\xff\xff\xff\xff\xff\x02", aNum},
		{"\xff\xff\xff\xff\xff\xff\xff\xff\xff\x02", anInt},
		{"\x80\x80\x80\x80\x80\x80\x80\x80\x80\x80\x01", aNum},
	} {
		for _, ahead := range []string{"", "\x05", "\x05\x05\x05"} {
			for _, behind := range []string{"", "\x01", "\x01\x01\x01\x01\x01\x01\x01\x01"} {
				if x.bytes == "" && behind != "" {
					continue
				}
				e := Open(ahead + x.bytes + behind)
				for range len(ahead) {
					if b := e.Byte(); b != 5 {
						t.Fatalf("%d", b)
					}
				}
				wants(t, e, len(x.bytes)+len(behind))
				if got := read(e, x.kind); got.n != 0 {
					t.Fatalf("%q: %v", x.bytes, got)
				}
				failed(t, e)
			}
		}
	}
}

func TestEnd(t *testing.T) { // P14.3: with bytes left, and without; to ask makes nothing fail
	e := Open("\x05\x01\x00")
	for left := 3; left > 0; left-- {
		wants(t, e, left)
		if code := e.End(); code != api.ErrCode {
			t.Errorf("%d left: %d", left, code)
		}
		e.Byte()
	}
	if code := e.End(); code != api.OK {
		t.Errorf("nothing left: %d", code)
	}
	wants(t, e, 0)
	e.Fail()
	if code := e.End(); code != api.ErrCode {
		t.Errorf("failed: %d", code)
	}
}

func TestEyesApart(t *testing.T) { // P14.2: two of the same bytes
	s := "\x01\xac\x02"
	a, b := Open(s), Open(s)
	if !a.Flag() || a.Num() != 300 {
		t.Error("the first one")
	}
	wants(t, a, 0)
	wants(t, b, 3)
	a.Fail()
	if b.Byte() != 1 || b.Num() != 300 {
		t.Error("the second one")
	}
	wants(t, b, 0)
}

// row are some things.
func row(chance *rand.Rand, of []thing, many int) []thing {
	var l []thing
	for range many {
		x := of[chance.Intn(len(of))]
		if (x.kind == aNum || x.kind == anInt) && chance.Intn(2) == 0 {
			x.n = chance.Uint64() >> chance.Intn(64)
		}
		l = append(l, x)
	}
	return l
}

func TestThereAndBack(t *testing.T) { // P14.4, P14.6: rows of all sorts of things, with bytes behind, and with each number of bytes taken away
	chance := rand.New(rand.NewSource(14))
	of := things()
	for range 400 {
		l := row(chance, of, chance.Intn(12))
		s := written(t, l...)
		wanted := ""
		for _, x := range l {
			wanted += x.bytes()
		}
		if s != wanted {
			t.Fatalf("%v: %q, not %q", l, s, wanted)
		}
		for _, behind := range []string{"", "\x00", "\xff", "\x80\x00", s} {
			e := Open(s + behind)
			for _, x := range l {
				if got := read(e, x.kind); got != x {
					t.Fatalf("%v: %v, not %v", l, got, x)
				}
			}
			wants(t, e, len(behind))
		}
		for many := range len(s) {
			fewer(t, l, s[:many])
		}
	}
}

// fewer wants that what is whole in s is read as it was written, and the eye fails behind it.
func fewer(t *testing.T, l []thing, s string) {
	t.Helper()
	e := Open(s)
	for _, x := range l {
		whole := len(x.bytes()) <= e.Left()
		got := read(e, x.kind)
		if whole && (got != x || e.Failed()) {
			t.Fatalf("%q of %v: %v, not %v", s, l, got, x)
		}
		if !whole {
			if got.n != 0 {
				t.Fatalf("%q of %v: %v", s, l, got)
			}
			failed(t, e)
			return
		}
	}
	t.Fatalf("%q of %v: all is read", s, l)
}

func TestWrittenAgain(t *testing.T) { // P14.5: whatever bytes, and whatever is asked of them
	chance := rand.New(rand.NewSource(15))
	edges := []byte{0, 0, 1, 1, 2, 127, 128, 129, 255}
	for range 20000 {
		b := make([]byte, chance.Intn(30))
		for i := range b {
			b[i] = edges[chance.Intn(len(edges))]
			if chance.Intn(3) == 0 {
				b[i] = byte(chance.Intn(256))
			}
		}
		s := string(b)
		e := Open(s)
		var p Pen
		for many := 0; ; {
			x := read(e, chance.Intn(kinds))
			if e.Failed() {
				break
			}
			x.write(&p)
			many = len(s) - e.Left()
			if got, code := p.Done(); got != s[:many] || code != api.OK {
				t.Fatalf("%q: %v is read, and %q written", s, x, got)
			}
		}
	}
}

func TestEachByteCounts(t *testing.T) { // P14.5: no two rows of bytes are the same number
	seen := map[thing]string{}
	for a := range 256 {
		for b := range 256 {
			s := string([]byte{byte(a), byte(b)})
			for _, kind := range []int{aNum, anInt} {
				e := Open(s)
				x := read(e, kind)
				if e.Failed() {
					continue
				}
				own := s[:len(s)-e.Left()]
				if other, is := seen[x]; is && other != own {
					t.Fatalf("%v is %q and %q", x, other, own)
				}
				seen[x] = own
			}
		}
	}
}

func TestShort(t *testing.T) { // P14.7
	length := func(n uint64) int { return len(written(t, thing{aNum, n})) }
	l := numbers()
	slices.Sort(l)
	for i, n := range l[1:] {
		if length(l[i]) > length(n) {
			t.Errorf("%d has %d bytes, %d has %d", l[i], length(l[i]), n, length(n))
		}
	}
	if many := length(0); many != 1 {
		t.Errorf("0 has %d bytes", many)
	}
	for bits := 1; bits <= 64; bits++ {
		least, greatest := uint64(1)<<(bits-1), uint64(math.MaxUint64)>>(64-bits)
		for _, n := range []uint64{least, greatest} {
			if many := length(n); many != (bits+6)/7 {
				t.Errorf("%d, of %d bits, has %d bytes", n, bits, many)
			}
		}
	}
	for bits, many := range map[int]int{7: 1, 8: 2, 64: 10} { // the chapter's own
		if got := length(1 << (bits - 1)); got != many {
			t.Errorf("of %d bits: %d bytes, not %d", bits, got, many)
		}
	}
}
