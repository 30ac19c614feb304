package packet

import (
	"math"
	"math/big"
	"math/rand"
	"regexp"
	"slices"
	"strconv"
	"strings"
	"testing"

	"distributary/api"
)

const top = math.MaxUint64

// stop is the least Length of which the grains are Cap.
const stop = api.Cap / api.Grain

// lengths are those at which something begins or stops, and some ordinary ones between.
func lengths() []int {
	return []int{
		math.MinInt, math.MinInt + 1, -1 << 56, -100, -2, -1, 0, 1, 2, 3, 7, 99, 100, 101, 255, 256, 257, 1500,
		api.MaxBytes - 2, api.MaxBytes - 1, api.MaxBytes, api.MaxBytes + 1, 1 << 32,
		stop - 1, stop, stop + 1, 1<<55 - 1, 1 << 55, 1<<55 + 1,
		1<<56 - 1, 1 << 56, 1<<56 + 1, 1<<56 + 100, // from here on a word would turn round
		1<<62 + 1, math.MaxInt - 1, math.MaxInt,
	}
}

// rates are 0, such as divide just, and such as leave a rest.
func rates() []uint64 {
	return []uint64{
		0, 1, 2, 3, 7, 10, 16, 100, 255, 256, 257, 512, 1000, 25599, 25600, 25601, 51200,
		api.MaxSlope - 1, api.MaxSlope, api.MaxSlope + 1, 1 << 40,
		api.Cap/3 + 1, api.Cap/2 - 1, api.Cap / 2, api.Cap/2 + 1, api.Cap - 1, api.Cap, api.Cap + 1,
		1<<63 - 1, 1 << 63, 1<<63 + 1, top - 1, top,
	}
}

// ends are the numbers of 64 bits at which something turns, and some ordinary ones.
func ends() []uint64 {
	return []uint64{0, 1, 2, 9, 10, 12, 100, 1<<32 - 1, 1 << 32, 1<<63 - 1, 1 << 63, 1<<63 + 1, top - 1, top}
}

func of(lengths ...int) []api.Packet {
	l := []api.Packet{}
	for i, n := range lengths {
		l = append(l, api.Packet{Id: uint64(i), Class: -i, Length: n, At: uint64(7 * i)})
	}
	return l
}

func whole(n uint64) *big.Int { return new(big.Int).SetUint64(n) }

// stopped is n, or Cap if n is more.
func stopped(n *big.Int) *big.Int {
	if end := whole(api.Cap); n.Cmp(end) > 0 {
		return end
	}
	return n
}

// grains are those of a length, in big numbers.
func grains(length int) *big.Int {
	if length < 1 {
		return new(big.Int)
	}
	return stopped(new(big.Int).Mul(big.NewInt(int64(length)), big.NewInt(api.Grain)))
}

// same is whether n is just what the big number is.
func same(n uint64, want *big.Int) bool { return whole(n).Cmp(want) == 0 }

func TestMayExamples(t *testing.T) { // P10.1
	for _, x := range []struct {
		length, most int
		want         api.Errno
	}{
		{100, 1500, api.OK},
		// Below 1, of 1, of the most, and above it.
		{0, 100, api.ErrLength},
		{-1, 100, api.ErrLength},
		{math.MinInt, 100, api.ErrLength},
		{1, 100, api.OK},
		{99, 100, api.OK},
		{100, 100, api.OK},
		{101, 100, api.ErrLength},
		{math.MaxInt, 100, api.ErrLength},
		// The least most, and the greatest one.
		{1, 1, api.OK},
		{0, 1, api.ErrLength},
		{2, 1, api.ErrLength},
		{1, api.MaxBytes - 1, api.OK},
		{api.MaxBytes - 1, api.MaxBytes - 1, api.OK},
		{api.MaxBytes, api.MaxBytes - 1, api.ErrLength},
		{0, api.MaxBytes - 1, api.ErrLength},
		// A most that may not be is told first, whatever the length.
		{1, 0, api.ErrArg},
		{0, 0, api.ErrArg},
		{1, -1, api.ErrArg},
		{-1, -1, api.ErrArg},
		{5, -5, api.ErrArg},
		{1, math.MinInt, api.ErrArg},
		{1, api.MaxBytes, api.ErrArg},
		{api.MaxBytes, api.MaxBytes, api.ErrArg},
		{api.MaxBytes + 1, api.MaxBytes, api.ErrArg},
		{0, api.MaxBytes, api.ErrArg},
		{1, math.MaxInt, api.ErrArg},
		{math.MaxInt, math.MaxInt, api.ErrArg},
	} {
		if e := May(api.Packet{Length: x.length}, x.most); e != x.want {
			t.Errorf("%d of most %d: %d, not %d", x.length, x.most, e, x.want)
		}
	}
}

func TestMayByLengthAlone(t *testing.T) { // P10.1: what else a packet has doesn't matter
	for _, p := range []api.Packet{{}, {Id: top, Class: math.MaxInt, At: top}, {Class: math.MinInt}, {Class: -1, At: api.MaxTick + 1}} {
		for length, want := range map[int]api.Errno{0: api.ErrLength, 1: api.OK, 70: api.OK, 71: api.ErrLength} {
			p.Length = length
			if e := May(p, 70); e != want {
				t.Errorf("%v: %d, not %d", p, e, want)
			}
		}
	}
}

func TestMayOfEachMost(t *testing.T) { // P10.1
	for most := -3; most <= api.MaxBytes+3; most++ {
		for _, length := range append(lengths(), most-1, most, most+1) {
			want := api.OK
			if most < 1 || most > 65535 {
				want = api.ErrArg
			} else if length < 1 || length > most {
				want = api.ErrLength
			}
			if e := May(api.Packet{Length: length}, most); e != want {
				t.Fatalf("%d of most %d: %d, not %d", length, most, e, want)
			}
		}
	}
}

func TestGrainsExamples(t *testing.T) { // P10.2
	for length, want := range map[int]uint64{
		100: 25600, // the chapter's own
		1:   256, 2: 512, 1500: 384000, api.MaxBytes - 1: 16776960,
		0: 0, -1: 0, -3: 0, -stop: 0, math.MinInt: 0, math.MinInt + 1: 0,
		// Just less than Cap, just Cap, and more than there is room for.
		stop - 1: api.Cap - 256, stop: api.Cap, stop + 1: api.Cap,
		1 << 55: api.Cap, 1<<55 + 1: api.Cap, 1 << 56: api.Cap, 1<<56 + 1: api.Cap, math.MaxInt: api.Cap,
	} {
		if n := Grains(api.Packet{Length: length}); n != want {
			t.Errorf("grains of %d: %d, not %d", length, n, want)
		}
	}
}

func TestGrains(t *testing.T) { // P10.2: held against big numbers; what else a packet has doesn't matter
	for _, length := range lengths() {
		for _, p := range []api.Packet{{Length: length}, {Id: top, Class: 3, Length: length, At: top}, {Class: math.MinInt, Length: length}} {
			if n := Grains(p); !same(n, grains(length)) {
				t.Errorf("grains of %v: %d, not %d", p, n, grains(length))
			}
		}
	}
}

func TestTicksExamples(t *testing.T) { // P10.2
	for _, x := range []struct {
		length     int
		rate, want uint64
	}{
		{100, 1000, 26}, // the chapter's own
		// It divides just, or leaves a rest.
		{100, 25600, 1},
		{100, 12800, 2},
		{100, 100, 256},
		{100, 1, 25600},
		{100, 25599, 2},
		{100, 25601, 1},
		{100, 12799, 3},
		{100, 12801, 2},
		{100, 999, 26},
		{100, 1024, 25},
		{100, 1025, 25},
		{100, 1023, 26},
		{1, 256, 1},
		{1, 255, 2},
		{1, 257, 1},
		{1, 3, 86},
		{100, top, 1},
		// The rate 0, with and without grains.
		{1, 0, api.Never},
		{100, 0, api.Never},
		{math.MaxInt, 0, api.Never},
		{0, 0, 0},
		{-1, 0, 0},
		{math.MinInt, 0, 0},
		// No grains at a rate.
		{0, 1, 0},
		{-100, 1000, 0},
		{0, top, 0},
		// Grains that stop, and rates beyond them.
		{stop, 1, api.Cap},
		{stop + 1, 1, api.Cap},
		{math.MaxInt, 1, api.Cap},
		{stop - 1, 1, api.Cap - 256},
		{math.MaxInt, api.Cap, 1},
		{math.MaxInt, api.Cap - 1, 2},
		{math.MaxInt, api.Cap + 1, 1},
		{math.MaxInt, 1 << 63, 1},
		{math.MaxInt, top, 1},
		{math.MaxInt, api.Cap / 2, 2},
		{math.MaxInt, api.Cap/2 - 1, 3},
		{math.MaxInt, api.Cap/2 + 1, 2},
	} {
		if n := Ticks(api.Packet{Length: x.length}, x.rate); n != x.want {
			t.Errorf("ticks of %d at %d: %d, not %d", x.length, x.rate, n, x.want)
		}
	}
}

// ticks are those of a length at a rate that isn't 0, in big numbers: what goes into it, and one more for a rest.
func ticks(length int, rate uint64) *big.Int {
	n, rest := new(big.Int).QuoRem(grains(length), whole(rate), new(big.Int))
	if rest.Sign() > 0 {
		n.Add(n, big.NewInt(1))
	}
	return n
}

func TestTicks(t *testing.T) { // P10.2
	for _, length := range lengths() {
		for _, p := range []api.Packet{{Length: length}, {Id: top, Class: math.MinInt, Length: length, At: top}} {
			for _, rate := range rates()[1:] {
				if n := Ticks(p, rate); !same(n, ticks(length, rate)) {
					t.Errorf("ticks of %v at %d: %d, not %d", p, rate, n, ticks(length, rate))
				}
			}
		}
	}
}

func TestAllExamples(t *testing.T) { // P10.2
	for _, x := range []struct {
		lengths []int
		want    uint64
	}{
		// None, one, many.
		{nil, 0},
		{[]int{0}, 0},
		{[]int{-7}, 0},
		{[]int{1}, 256},
		{[]int{100}, 25600},
		{[]int{2, 3}, 1280},
		{[]int{100, 100, 100}, 76800},
		{[]int{65535, 1, 1500, 40}, 17171456},
		// One without grains takes nothing away.
		{[]int{2, -1, 3}, 1280},
		{[]int{-2, 0, math.MinInt, 3}, 768},
		{[]int{math.MinInt, math.MinInt, 1}, 256},
		// Just less than Cap, just Cap, more.
		{[]int{stop - 2, 1}, api.Cap - 256},
		{[]int{stop - 1, 1}, api.Cap},
		{[]int{stop - 1, 2}, api.Cap},
		{[]int{stop, 1}, api.Cap},
		{[]int{1, stop}, api.Cap},
		{[]int{stop, 0, -1}, api.Cap},
		{[]int{stop / 2, stop / 2}, api.Cap},
		{[]int{stop / 2, stop/2 - 1}, api.Cap - 256},
		{[]int{stop / 2, stop/2 - 1, 0, 1}, api.Cap},
		{[]int{stop, stop}, api.Cap},
		// So many that a word would turn round.
		{[]int{stop, stop, stop, stop}, api.Cap},
		{[]int{stop, stop, stop, stop, 5}, api.Cap},
		{[]int{math.MaxInt, math.MaxInt, math.MaxInt, math.MaxInt, math.MaxInt}, api.Cap},
		{[]int{stop - 1, stop - 1, stop - 1, stop - 1, 4}, api.Cap},
	} {
		if n := All(of(x.lengths...)); n != x.want {
			t.Errorf("grains of all of %v: %d, not %d", x.lengths, n, x.want)
		}
	}
	if n := All(nil); n != 0 {
		t.Errorf("grains of nobody: %d", n)
	}
}

func TestAll(t *testing.T) { // P10.2: held against big numbers, in whatever order
	chance := rand.New(rand.NewSource(102))
	for n := range 40 {
		for range 40 {
			l := make([]int, n)
			for i := range l {
				l[i] = chance.Intn(3000) - 300
				if chance.Intn(12) == 0 {
					l[i] = lengths()[chance.Intn(len(lengths()))]
				}
			}
			sum := new(big.Int)
			for _, length := range l {
				sum.Add(sum, grains(length))
			}
			for range 2 {
				if got := All(of(l...)); !same(got, stopped(sum)) {
					t.Fatalf("grains of all of %v: %d, not %d", l, got, stopped(sum))
				}
				slices.Reverse(l)
			}
		}
	}
}

func TestAllLeavesThem(t *testing.T) { // P10.2: what is handed in stays as it is
	l := of(3, -1, stop, math.MaxInt, 0, 5)
	was := slices.Clone(l)
	if All(l) != All(l) || !slices.Equal(l, was) {
		t.Errorf("%v, not %v", l, was)
	}
}

func TestBeforeExamples(t *testing.T) { // P10.3
	for _, x := range []struct {
		a, b api.Packet
		want bool
	}{
		// Another tick.
		{api.Packet{Id: 5, At: 3}, api.Packet{Id: 4, At: 4}, true},
		{api.Packet{Id: 4, At: 4}, api.Packet{Id: 5, At: 3}, false},
		{api.Packet{Id: 4, At: 3}, api.Packet{Id: 5, At: 4}, true},
		{api.Packet{Id: 5, At: 4}, api.Packet{Id: 4, At: 3}, false},
		{api.Packet{Id: 4, At: 3}, api.Packet{Id: 4, At: 4}, true},
		{api.Packet{Id: 4, At: 4}, api.Packet{Id: 4, At: 3}, false},
		{api.Packet{Id: 9, At: 0}, api.Packet{Id: 0, At: top}, true},
		{api.Packet{Id: 0, At: top}, api.Packet{Id: 9, At: 0}, false},
		// The same tick.
		{api.Packet{Id: 4, At: 3}, api.Packet{Id: 5, At: 3}, true},
		{api.Packet{Id: 5, At: 3}, api.Packet{Id: 4, At: 3}, false},
		{api.Packet{Id: 0, At: 3}, api.Packet{Id: top, At: 3}, true},
		{api.Packet{Id: top, At: 3}, api.Packet{Id: 0, At: 3}, false},
		// Numbers that would be below 0, had they a sign, are the greatest.
		{api.Packet{Id: 1<<63 - 1, At: 3}, api.Packet{Id: 1 << 63, At: 3}, true},
		{api.Packet{Id: 1 << 63, At: 3}, api.Packet{Id: 1<<63 - 1, At: 3}, false},
		{api.Packet{Id: top, At: 1<<63 - 1}, api.Packet{Id: 1, At: 1 << 63}, true},
		{api.Packet{Id: 1, At: 1 << 63}, api.Packet{Id: top, At: 1<<63 - 1}, false},
		// Both the same.
		{api.Packet{Id: 5, At: 3}, api.Packet{Id: 5, At: 3}, false},
		{api.Packet{}, api.Packet{}, false},
		{api.Packet{Id: top, At: top}, api.Packet{Id: top, At: top}, false},
		// Class and Length don't matter.
		{api.Packet{Id: 5, At: 3, Class: 1, Length: 1}, api.Packet{Id: 5, At: 3, Class: 2, Length: 2}, false},
		{api.Packet{Id: 5, At: 3, Class: -2, Length: 2}, api.Packet{Id: 5, At: 3, Class: 1, Length: 1}, false},
		{api.Packet{Id: 4, At: 3, Class: 9, Length: 9}, api.Packet{Id: 5, At: 3}, true},
		{api.Packet{Id: 5, At: 4}, api.Packet{Id: 5, At: 3, Class: 9, Length: 9}, false},
	} {
		if is := Before(x.a, x.b); is != x.want {
			t.Errorf("%v before %v: %v", x.a, x.b, is)
		}
	}
}

func TestAnOrder(t *testing.T) { // P10.7
	var l []api.Packet
	for _, at := range ends() {
		for i, id := range ends() {
			l = append(l, api.Packet{Id: id, Class: i - 4, Length: 9 - i, At: at})
		}
	}
	for i, a := range l { // they stand in order
		for j, b := range l {
			if is := Before(a, b); is != (i < j) {
				t.Fatalf("%v before %v: %v", a, b, is)
			}
		}
		if Before(a, a) {
			t.Fatalf("%v is ahead of itself", a)
		}
	}
	for _, a := range l {
		b := a
		b.Class, b.Length = 77, -77
		if Before(a, b) || Before(b, a) {
			t.Fatalf("%v and %v aren't the same for it", a, b)
		}
	}
	few := l[:60]
	for _, a := range few { // ahead of one that is ahead of another: ahead of that, too
		for _, b := range few {
			if Before(a, b) && Before(b, a) {
				t.Fatalf("%v and %v are each ahead", a, b)
			}
			for _, c := range few {
				if Before(a, b) && Before(b, c) && !Before(a, c) {
					t.Fatalf("%v, %v, %v", a, b, c)
				}
			}
		}
	}
}

// texts are packets and the texts that they have.
func texts() map[string]api.Packet {
	return map[string]api.Packet{
		"7 3 100 12": {Id: 7, Class: 3, Length: 100, At: 12}, // the chapter's own
		"0 0 0 0":    {},
		"1 0 0 0":    {Id: 1},
		"0 1 0 0":    {Class: 1},
		"0 0 1 0":    {Length: 1},
		"0 0 0 1":    {At: 1},
		"1 2 3 4":    {Id: 1, Class: 2, Length: 3, At: 4},
		"10 20 30 40": {
			Id: 10, Class: 20, Length: 30, At: 40,
		},
		"1000 1001 100000 900": {Id: 1000, Class: 1001, Length: 100000, At: 900},
		"18446744073709551615 0 0 0": {
			Id: top,
		},
		"0 9223372036854775807 0 0": {Class: math.MaxInt},
		"0 0 9223372036854775807 0": {Length: math.MaxInt},
		"0 0 0 18446744073709551615": {
			At: top,
		},
		"9223372036854775808 0 0 9223372036854775808": {Id: 1 << 63, At: 1 << 63},
		"18446744073709551615 9223372036854775807 9223372036854775807 18446744073709551615": {
			Id: top, Class: math.MaxInt, Length: math.MaxInt, At: top,
		},
		"18446744073709551614 9223372036854775806 9223372036854775806 18446744073709551614": {
			Id: top - 1, Class: math.MaxInt - 1, Length: math.MaxInt - 1, At: top - 1,
		},
	}
}

func TestTextExamples(t *testing.T) { // P10.4
	for s, p := range texts() {
		if got, e := Text(p); got != s || e != api.OK {
			t.Errorf("text of %v: %q %d, not %q", p, got, e, s)
		}
	}
}

func TestParseExamples(t *testing.T) { // P10.4
	for s, p := range texts() {
		if got, e := Parse(s); got != p || e != api.OK {
			t.Errorf("%q: %v %d, not %v", s, got, e, p)
		}
	}
}

func TestNoText(t *testing.T) { // P10.4: by the Class, by the Length, by both
	for _, p := range []api.Packet{
		{Class: -1},
		{Length: -1},
		{Class: -1, Length: -1},
		{Class: math.MinInt},
		{Length: math.MinInt},
		{Class: math.MinInt, Length: math.MinInt},
		{Id: 7, Class: -3, Length: 100, At: 12},
		{Id: 7, Class: 3, Length: -100, At: 12},
		{Id: top, Class: math.MaxInt, Length: -1, At: top},
		{Id: top, Class: -1, Length: math.MaxInt, At: top},
	} {
		if s, e := Text(p); s != "" || e != api.ErrArg {
			t.Errorf("text of %v: %q %d", p, s, e)
		}
	}
}

// isNone tells whether nobody has that text.
func isNone(t *testing.T, s string) {
	t.Helper()
	if p, e := Parse(s); p != (api.Packet{}) || e != api.ErrArg {
		t.Errorf("%q: %v %d", s, p, e)
	}
}

func TestTextOfNone(t *testing.T) { // P10.4
	for _, s := range []string{
		"", " ", "  ", "   ", "    ", // nothing, and blanks alone
		"0", "7", "7 3", "7 3 100", "0 0 0", // too few
		"7 3 100 12 5", "7 3 100 12 0", "0 0 0 0 0", "7 3 100 12 5 6 7 8", "1 2 3 4 5 6 7 8 9", // too many
		"07 3 100 12", "7 03 100 12", "7 3 0100 12", "7 3 100 012", // a nought ahead
		"00 0 0 0", "0 00 0 0", "0 0 00 0", "0 0 0 00", "0 0 0 000000000000000000000000",
		"018446744073709551615 0 0 0", "0 0 0 018446744073709551615",
		" 7 3 100 12", "7 3 100 12 ", "  7 3 100 12", "7 3 100 12  ", // a blank more, at the beginning, at the end
		"7  3 100 12", "7 3  100 12", "7 3 100  12",
		" 7 3 100", "7 3 100 ", "7 3  12", "7  100 12", " 3 100 12", // a number that isn't there
		"73 100 12", "7 3100 12", "7 3 10012", // a blank less
		"+7 3 100 12", "7 +3 100 12", "7 3 +100 12", "7 3 100 +12", // a sign
		"-7 3 100 12", "7 -3 100 12", "7 3 -100 12", "7 3 100 -12",
		"-0 0 0 0", "0 -0 0 0", "0 0 +0 0", "0 0 0 -0", "- 0 0 0", "0 + 0 0",
		"7- 3 100 12", "7 3+ 100 12",
		"x 3 100 12", "7 x 100 12", "7 3 x 12", "7 3 100 x", "7x 3 100 12", "7 3 100 1x2", "7 3 1a0 12", // other signs
		"7 3 100 0x12", "7 3 1e2 12", "7 3 100.0 12", "7 3 1_00 12", "7,3,100,12", "7;3 100 12", "7 3 100 12;",
		"7/3 100 12", "7: 3 100 12", "7 3 100 :", "7 3 100 /",
		"7\t3 100 12", "7 3\n100 12", "7 3 100 12\n", "\n7 3 100 12", "7 3 100 12\r\n", "7 3 100 12\x00", "\x007 3 100 12",
		"7\u00a03 100 12", "7 3 100\u200312", "\ufeff7 3 100 12", // what is nearly a blank
		"7 3 100 \u0661", "\uff17 3 100 12", "7 \u00b3 100 12", "7 3 100 \U0001d7d2", // what is nearly a digit
		"7 3 100 1\xff", "\xff 3 100 12", "7 3 100 \xd9", "7 3 \x80 12", // what is no rune
		"18446744073709551616 3 100 12", "7 3 100 18446744073709551616", // too great by one
		"7 9223372036854775808 100 12", "7 3 9223372036854775808 12",
		"7 18446744073709551615 100 12", "7 3 18446744073709551615 12",
		"7 18446744073709551616 100 12", "7 3 18446744073709551616 12",
		"7 18446744073709551619 100 12", "7 3 18446744073709551716 12", // which would turn round to 3, to 100
		"18446744073709551623 3 100 12", "7 3 100 18446744073709551628", // to 7, to 12
		"18446744073709551620 3 100 12", "7 3 100 20000000000000000000", "99999999999999999999 3 100 12",
		"184467440737095516150 3 100 12", "7 3 100 184467440737095516160",
		"340282366920938463463374607431768211456 3 100 12", "7 3 100 340282366920938463463374607431768211463",
	} {
		isNone(t, s)
	}
}

// row is what a text has to look like.
var row = regexp.MustCompile(`\A(0|[1-9][0-9]*) (0|[1-9][0-9]*) (0|[1-9][0-9]*) (0|[1-9][0-9]*)\z`)

// readByWords is the packet whose text it is, by the chapter's words, in big numbers, and whether there is one.
func readByWords(s string) (api.Packet, bool) {
	words := row.FindStringSubmatch(s)
	if words == nil {
		return api.Packet{}, false
	}
	var n [4]uint64
	for i, end := range []uint64{top, math.MaxInt, math.MaxInt, top} {
		number, _ := new(big.Int).SetString(words[i+1], 10)
		if number.Cmp(whole(end)) > 0 {
			return api.Packet{}, false
		}
		n[i] = number.Uint64()
	}
	return api.Packet{Id: n[0], Class: int(n[1]), Length: int(n[2]), At: n[3]}, true
}

// reads holds what is parsed of s against the words, and tells it again (P10.4, P10.6).
func reads(t *testing.T, s string) {
	t.Helper()
	want, is := readByWords(s)
	if !is {
		isNone(t, s)
		return
	}
	p, e := Parse(s)
	if p != want || e != api.OK {
		t.Fatalf("%q: %v %d, not %v", s, p, e, want)
	}
	if again, e := Text(p); again != s || e != api.OK {
		t.Fatalf("%q is told as %q %d", s, again, e)
	}
}

func TestEachShortText(t *testing.T) { // P10.4, P10.6
	signs := []byte("0 1-")
	s := []byte{}
	var longer func(n int)
	longer = func(n int) {
		reads(t, string(s))
		if n == 0 {
			return
		}
		for _, sign := range signs {
			s = append(s, sign)
			longer(n - 1)
			s = s[:len(s)-1]
		}
	}
	longer(9)
}

func TestTextsThatAreNearlySome(t *testing.T) { // P10.4, P10.6: a sign more, less, or another one, wherever
	signs := " 0123456789+-x/:;\t\n\x00\x7f\x80\xff"
	for s := range texts() {
		for i := range len(s) + 1 {
			for _, sign := range []byte(signs) {
				reads(t, s[:i]+string([]byte{sign})+s[i:])
				if i < len(s) {
					reads(t, s[:i]+string([]byte{sign})+s[i+1:])
				}
			}
			reads(t, s[:i])
			reads(t, s[i:])
			if i < len(s) {
				reads(t, s[:i]+s[i+1:])
			}
		}
	}
}

func TestNumbersAtTheirEnds(t *testing.T) { // P10.4, P10.6: whichever of the four
	one := big.NewInt(1)
	for _, words := range []string{"% 3 100 12", "7 % 100 12", "7 3 % 12", "7 3 100 %"} {
		for _, bits := range []uint{0, 8, 16, 31, 32, 53, 56, 62, 63, 64, 65, 66, 127, 128, 129, 192, 256} {
			for _, off := range []int64{-3, -2, -1, 0, 1, 2, 3} {
				n := new(big.Int).Lsh(one, bits)
				n.Add(n, big.NewInt(off))
				reads(t, strings.ReplaceAll(words, "%", n.String()))
			}
		}
		for digits := range 45 {
			ten := "1" + strings.Repeat("0", digits)
			reads(t, strings.ReplaceAll(words, "%", ten))
			reads(t, strings.ReplaceAll(words, "%", ten[1:]))
			reads(t, strings.ReplaceAll(words, "%", strings.Repeat("9", digits)))
		}
	}
}

// written is a packet's text, by the chapter's words.
func written(p api.Packet) string {
	u := func(n uint64) string { return strconv.FormatUint(n, 10) }
	return u(p.Id) + " " + strconv.Itoa(p.Class) + " " + strconv.Itoa(p.Length) + " " + u(p.At)
}

func TestThereAndBack(t *testing.T) { // P10.6
	var l []api.Packet
	ints := []int{0, 1, 9, 10, 100, 1 << 32, math.MaxInt - 1, math.MaxInt, -1, math.MinInt}
	for _, id := range ends() {
		for _, at := range ends() {
			for _, class := range ints {
				for _, length := range ints {
					l = append(l, api.Packet{Id: id, Class: class, Length: length, At: at})
				}
			}
		}
	}
	chance := rand.New(rand.NewSource(106))
	for range 20000 {
		wide := func() uint64 { return chance.Uint64() >> chance.Intn(64) }
		l = append(l, api.Packet{Id: wide(), Class: int(wide()), Length: int(wide()), At: wide()})
	}
	for _, p := range l {
		s, e := Text(p)
		if p.Class < 0 || p.Length < 0 {
			if s != "" || e != api.ErrArg {
				t.Fatalf("text of %v: %q %d", p, s, e)
			}
			isNone(t, written(p))
			continue
		}
		if s != written(p) || e != api.OK {
			t.Fatalf("text of %v: %q %d", p, s, e)
		}
		if again, e := Parse(s); again != p || e != api.OK {
			t.Fatalf("%v is read from its text as %v %d", p, again, e)
		}
	}
}

func TestLongTexts(t *testing.T) { // P10.4
	const n = 1 << 16
	for _, s := range []string{"0", "1", "9", " ", "x", "1 ", "7 3 100 12 ", "\xff"} {
		isNone(t, strings.Repeat(s, n))
		isNone(t, "7 3 100 "+strings.Repeat(s, n))
		isNone(t, strings.Repeat(s, n)+" 3 100 12")
		isNone(t, "7 3 100 12"+strings.Repeat(s, n))
	}
}

func TestAsManyTicksAsItNeeds(t *testing.T) { // P10.5: of each by itself
	for _, length := range lengths() {
		for _, rate := range rates()[1:] {
			p := api.Packet{Length: length}
			n, all := Ticks(p, rate), whole(Grains(p))
			through := func(n uint64) bool { return new(big.Int).Mul(whole(n), whole(rate)).Cmp(all) >= 0 }
			if !through(n) || n > 0 && through(n-1) {
				t.Errorf("%d at %d: %d ticks", length, rate, n)
			}
		}
	}
}

func TestTogetherNeedNoMore(t *testing.T) { // P10.5: all, one behind the other
	chance := rand.New(rand.NewSource(105))
	for n := range 30 {
		for range 30 {
			l := make([]int, n)
			for i := range l {
				l[i] = chance.Intn(4000) - 50
				if chance.Intn(20) == 0 {
					l[i] = lengths()[chance.Intn(len(lengths()))]
				}
			}
			all := of(l...)
			for _, rate := range rates()[1:] {
				together := new(big.Int).Add(whole(All(all)), whole(rate-1))
				together.Quo(together, whole(rate))
				each := new(big.Int)
				for _, p := range all {
					each.Add(each, whole(Ticks(p, rate)))
				}
				if together.Cmp(each) > 0 {
					t.Fatalf("%v at %d: %d together, %d each", l, rate, together, each)
				}
			}
		}
	}
}
