package command

import (
	"encoding/binary"
	"math"
	"math/rand"
	"reflect"
	"slices"
	"strings"
	"testing"

	"distributary/api"
)

const (
	least    = 1 // of the kinds
	greatest = 7
)

// curveOf are the names of a curve's numbers.
func curveOf(name string) []string {
	return []string{name + ".First", name + ".Length", name + ".Rest"}
}

func threeCurves() []string {
	return slices.Concat(curveOf("Spec.Real"), curveOf("Spec.Share"), curveOf("Spec.Upper"))
}

// has is the chapter's 'What a command's kind has', in the order of its bytes.
func has(kind int) []string {
	switch kind {
	case 1:
		return []string{"Config.Rate", "Config.Most", "Config.Horizon"}
	case 2:
		return slices.Concat([]string{"Spec.Id", "Spec.Parent", "Spec.Leaf"}, threeCurves(), []string{"Spec.Packets", "Spec.Bytes"})
	case 3:
		return append([]string{"Spec.Id"}, threeCurves()...)
	case 4, 7:
		return []string{"Id"}
	case 5:
		return []string{"Packet.Id", "Packet.Class", "Packet.Length", "Packet.At"}
	case 6:
		return []string{"To"}
	}
	return nil
}

// hasNot are all others that a command can tell.
func hasNot(kind int) []string {
	var l []string
	for _, name := range fields("", reflect.TypeFor[api.Command]()) {
		if name != "Kind" && !slices.Contains(has(kind), name) {
			l = append(l, name)
		}
	}
	return l
}

// told are a reply's, in the order of its bytes.
func told() []string {
	return []string{"Code", "Now", "Stats.Came", "Stats.Refused", "Stats.Sent", "Stats.Bytes", "Stats.Real", "Stats.Share", "Stats.Waiting", "Stats.Held"}
}

// fields are the names of all that a record is made of in the end.
func fields(ahead string, record reflect.Type) []string {
	var l []string
	for i := range record.NumField() {
		f := record.Field(i)
		if f.Type.Kind() == reflect.Struct {
			l = append(l, fields(ahead+f.Name+".", f.Type)...)
			continue
		}
		l = append(l, ahead+f.Name)
	}
	return l
}

// at is that field of what record points to.
func at(record any, name string) reflect.Value {
	v := reflect.ValueOf(record).Elem()
	for _, part := range strings.Split(name, ".") {
		v = v.FieldByName(part)
	}
	return v
}

// bytesOf are a field's, by the words of chapter 14.
func bytesOf(v reflect.Value) string {
	switch v.Kind() {
	case reflect.Uint64:
		return string(binary.AppendUvarint(nil, v.Uint()))
	case reflect.Int:
		return string(binary.AppendVarint(nil, v.Int()))
	case reflect.Bool:
		if v.Bool() {
			return "\x01"
		}
		return "\x00"
	}
	panic(v.Kind())
}

// rowOf are the bytes of those fields, one behind the other.
func rowOf(record any, names []string) []string {
	var l []string
	for _, name := range names {
		l = append(l, bytesOf(at(record, name)))
	}
	return l
}

// rows are a command's bytes by the chapter's words, field by field, behind the Kind's.
func rows(c api.Command) []string {
	return append([]string{string([]byte{c.Kind})}, rowOf(&c, has(int(c.Kind)))...)
}

// replyRows are a reply's.
func replyRows(r api.Reply) []string {
	return append([]string{"\x00"}, rowOf(&r, told())...)
}

func joined(l []string) string { return strings.Join(l, "") }

// readAt has a field be what stands at the beginning of s, and tells how many bytes that has; no, if it is none's.
func readAt(s string, v reflect.Value) (int, bool) {
	many := 0
	switch v.Kind() {
	case reflect.Uint64:
		var n uint64
		n, many = binary.Uvarint([]byte(s))
		v.SetUint(n)
	case reflect.Int:
		var n int64
		n, many = binary.Varint([]byte(s))
		v.SetInt(n)
	case reflect.Bool:
		if s == "" || s[0] > 1 {
			return 0, false
		}
		v.SetBool(s[0] == 1)
		many = 1
	}
	return many, many > 0 && bytesOf(v) == s[:many] // in one way alone
}

// filled has those fields be what s is; no, if it isn't just that.
func filled(s string, record any, names []string) bool {
	for _, name := range names {
		many, is := readAt(s, at(record, name))
		if !is {
			return false
		}
		s = s[many:]
	}
	return s == ""
}

// commandOf is the command whose bytes these are, by the chapter's words; no, if they are none's.
func commandOf(s string) (api.Command, bool) {
	if s == "" || s[0] < least || s[0] > greatest {
		return api.Command{}, false
	}
	c := api.Command{Kind: s[0]}
	if !filled(s[1:], &c, has(int(s[0]))) {
		return api.Command{}, false
	}
	return c, true
}

// replyOf is the reply whose bytes these are, by the chapter's words; no, if they are none's.
func replyOf(s string) (api.Reply, bool) {
	var r api.Reply
	if s == "" || s[0] != 0 || !filled(s[1:], &r, told()) {
		return api.Reply{}, false
	}
	return r, true
}

// ownOf is the command with what its kind has, by the chapter's words.
func ownOf(c api.Command) api.Command {
	own := api.Command{Kind: c.Kind}
	for _, name := range has(int(c.Kind)) {
		at(&own, name).Set(at(&c, name))
	}
	return own
}

// edges are 0, the least and the greatest values of a field like v, and such as have one byte more than those beside them.
func edges(v reflect.Value) []any {
	var l []any
	switch v.Kind() {
	case reflect.Bool:
		return []any{false, true}
	case reflect.Uint64:
		for _, n := range []uint64{0, 1, 2, 127, 128, 300, 16383, 16384, 1 << 20, 1 << 40, 1<<62 - 1, 1 << 62, 1<<63 - 1, 1 << 63, math.MaxUint64 - 1, math.MaxUint64} {
			l = append(l, n)
		}
	case reflect.Int:
		for _, n := range []int{0, 1, -1, 2, -2, 63, -64, 64, -65, 300, -300, 65535, 65536, 1 << 24, 1 << 32, math.MaxInt - 1, math.MaxInt, math.MinInt + 1, math.MinInt} {
			l = append(l, n)
		}
	}
	return l
}

// with has a field be one of its edges.
func with(record any, name string, x any) {
	v := at(record, name)
	v.Set(reflect.ValueOf(x).Convert(v.Type()))
}

// chosen has each of those fields be one of its edges, or some other value.
func chosen(chance *rand.Rand, record any, names []string) {
	for _, name := range names {
		l := edges(at(record, name))
		with(record, name, l[chance.Intn(len(l))])
		v := at(record, name)
		if chance.Intn(2) == 0 {
			continue
		}
		switch n := chance.Uint64() >> chance.Intn(64); v.Kind() {
		case reflect.Uint64:
			v.SetUint(n)
		case reflect.Int:
			v.SetInt(int64(n) * int64(1-2*chance.Intn(2)))
		}
	}
}

// some is a command of that kind that may be told.
func some(chance *rand.Rand, kind int) api.Command {
	c := api.Command{Kind: uint8(kind)}
	chosen(chance, &c, has(kind))
	return c
}

// someAll is one that tells all that a command can.
func someAll(chance *rand.Rand, kind int) api.Command {
	c := some(chance, kind)
	chosen(chance, &c, hasNot(kind))
	return c
}

func someReply(chance *rand.Rand) api.Reply {
	var r api.Reply
	chosen(chance, &r, told())
	return r
}

// full is a command of that kind each of whose fields is another number, or true.
func full(kind int) api.Command {
	c := api.Command{Kind: uint8(kind)}
	for i, name := range has(kind) {
		if at(&c, name).Kind() == reflect.Bool {
			with(&c, name, true)
			continue
		}
		with(&c, name, 200+i)
	}
	return c
}

func fullReply() api.Reply {
	var r api.Reply
	for i, name := range told() {
		with(&r, name, 200+i)
	}
	return r
}

// thereAndBack wants that the command has those bytes, and is read from them; and that they are no reply's.
func thereAndBack(t *testing.T, c api.Command, want string) {
	t.Helper()
	if s, e := Command(c); s != want || e != api.OK {
		t.Fatalf("%+v: %q %d, not %q", c, s, e, want)
	}
	if got, e := ReadCommand(want); got != c || e != api.OK {
		t.Fatalf("%q: %+v %d, not %+v", want, got, e, c)
	}
	noReply(t, want)
}

// replyThereAndBack wants it of a reply; and that the bytes are no command's.
func replyThereAndBack(t *testing.T, r api.Reply, want string) {
	t.Helper()
	if s, e := Reply(r); s != want || e != api.OK {
		t.Fatalf("%+v: %q %d, not %q", r, s, e, want)
	}
	if got, e := ReadReply(want); got != r || e != api.OK {
		t.Fatalf("%q: %+v %d, not %+v", want, got, e, r)
	}
	noCommand(t, want)
}

// noBytes wants that the command may not be told, and that nothing stands beside that.
func noBytes(t *testing.T, c api.Command) {
	t.Helper()
	if s, e := Command(c); s != "" || e != api.ErrArg {
		t.Fatalf("%+v: %q %d", c, s, e)
	}
}

// noCommand wants that these bytes are no command's, and that nothing stands beside that.
func noCommand(t *testing.T, s string) {
	t.Helper()
	if c, e := ReadCommand(s); c != (api.Command{}) || e != api.ErrCode {
		t.Fatalf("%q: %+v %d", s, c, e)
	}
}

// noReply wants that these bytes are no reply's, and that nothing stands beside that.
func noReply(t *testing.T, s string) {
	t.Helper()
	if r, e := ReadReply(s); r != (api.Reply{}) || e != api.ErrCode {
		t.Fatalf("%q: %+v %d", s, r, e)
	}
}

// judged holds what is read of s, as either, against the chapter's words; and what is read, written, against s.
func judged(t *testing.T, s string) {
	t.Helper()
	if c, is := commandOf(s); is {
		thereAndBack(t, c, s)
	} else {
		noCommand(t, s)
	}
	if r, is := replyOf(s); is {
		replyThereAndBack(t, r, s)
	} else {
		noReply(t, s)
	}
}

// noKinds are all that are none.
func noKinds() []int {
	l := []int{0}
	for kind := greatest + 1; kind < 256; kind++ {
		l = append(l, kind)
	}
	return l
}

func TestExamples(t *testing.T) { // P15.2, P15.3: the chapter's own
	thereAndBack(t, api.Command{Kind: api.CmAdvance, To: 300}, "\x06\xac\x02")
	thereAndBack(t, api.Command{Kind: api.CmAsk, Id: 5}, "\x07\x0a")
	replyThereAndBack(t, api.Reply{}, strings.Repeat("\x00", 11))
}

func TestBytesOfEachKind(t *testing.T) { // P15.2: each field another number, so that each stands in its place
	for _, x := range []struct {
		c     api.Command
		bytes string
	}{
		{api.Command{Kind: api.CmConfig, Config: api.Config{Rate: 1, Most: 2, Horizon: 3}}, "\x01\x01\x04\x03"},
		{api.Command{Kind: api.CmConfig, Config: api.Config{Rate: 300, Most: -1, Horizon: 128}}, "\x01\xac\x02\x01\x80\x01"},
		{api.Command{Kind: api.CmAdd, Spec: api.Spec{
			Id: 1, Parent: 2, Leaf: true,
			Real: api.Curve{First: 3, Length: 4, Rest: 5}, Share: api.Curve{First: 6, Length: 7, Rest: 8}, Upper: api.Curve{First: 9, Length: 10, Rest: 11},
			Packets: 12, Bytes: 13,
		}}, "\x02\x02\x04\x01\x03\x04\x05\x06\x07\x08\x09\x0a\x0b\x18\x1a"},
		{api.Command{Kind: api.CmAdd, Spec: api.Spec{Id: 7, Share: api.Curve{Rest: 1}}}, "\x02\x0e\x00\x00\x00\x00\x00\x00\x00\x01\x00\x00\x00\x00\x00"},
		{api.Command{Kind: api.CmChange, Spec: api.Spec{
			Id: 1, Real: api.Curve{First: 3, Length: 4, Rest: 5}, Share: api.Curve{First: 6, Length: 7, Rest: 8}, Upper: api.Curve{First: 9, Length: 10, Rest: 11},
		}}, "\x03\x02\x03\x04\x05\x06\x07\x08\x09\x0a\x0b"},
		{api.Command{Kind: api.CmDelete, Id: 64}, "\x04\x80\x01"},
		{api.Command{Kind: api.CmArrive, Packet: api.Packet{Id: 1, Class: 2, Length: 3, At: 4}}, "\x05\x01\x04\x06\x04"},
		{api.Command{Kind: api.CmArrive, Packet: api.Packet{Id: math.MaxUint64, Class: -2, Length: -3, At: 128}}, "\x05\xff\xff\xff\xff\xff\xff\xff\xff\xff\x01\x03\x05\x80\x01"},
		{api.Command{Kind: api.CmAdvance, To: 1}, "\x06\x01"},
		{api.Command{Kind: api.CmAsk}, "\x07\x00"},
		{api.Command{Kind: api.CmAsk, Id: -1}, "\x07\x01"},
	} {
		thereAndBack(t, x.c, x.bytes)
	}
}

func TestBytesOfReplies(t *testing.T) { // P15.3: each field another number; Codes below 0, and such as are none's
	r := api.Reply{Code: 1, Now: 2, Stats: api.Stats{Came: 3, Refused: 4, Sent: 5, Bytes: 6, Real: 7, Share: 8, Waiting: 9, Held: 10}}
	replyThereAndBack(t, r, "\x00\x02\x02\x03\x04\x05\x06\x07\x08\x09\x0a")
	for _, x := range []struct {
		code  api.Errno
		bytes string
	}{
		{-1, "\x01"},
		{-2, "\x03"},
		{-64, "\x7f"},
		{-65, "\x81\x01"},
		{math.MinInt, "\xff\xff\xff\xff\xff\xff\xff\xff\xff\x01"},
		{math.MaxInt, "\xfe\xff\xff\xff\xff\xff\xff\xff\xff\x01"},
		{api.ErrConfig, "\xb0\x04"},
		{9, "\x12"},
	} {
		r.Code = x.code
		replyThereAndBack(t, r, "\x00"+x.bytes+"\x02\x03\x04\x05\x06\x07\x08\x09\x0a")
	}
}

func TestEachKindOfNothing(t *testing.T) { // P15.2: all that it has is 0
	for kind, many := range []int{least: 3, 2: 14, 3: 10, 4: 1, 5: 4, 6: 1, greatest: 1} {
		if kind >= least {
			thereAndBack(t, api.Command{Kind: uint8(kind)}, string([]byte{uint8(kind)})+strings.Repeat("\x00", many))
		}
	}
}

func TestEachField(t *testing.T) { // P15.1, P15.2: each that a kind has, at each edge, the others 0, and not
	for kind := least; kind <= greatest; kind++ {
		for _, name := range has(kind) {
			for _, c := range []api.Command{{Kind: uint8(kind)}, full(kind)} {
				for _, x := range edges(at(&c, name)) {
					with(&c, name, x)
					thereAndBack(t, c, joined(rows(c)))
					if own := Own(c); own != c {
						t.Fatalf("%+v, not %+v", own, c)
					}
				}
			}
		}
	}
}

func TestEachFieldOfReplies(t *testing.T) { // P15.3: at each edge, the others 0, and not
	for _, name := range told() {
		for _, r := range []api.Reply{{}, fullReply()} {
			for _, x := range edges(at(&r, name)) {
				with(&r, name, x)
				replyThereAndBack(t, r, joined(replyRows(r)))
			}
		}
	}
}

func TestHasNot(t *testing.T) { // P15.1, P15.2: each field that a kind hasn't, not 0
	for kind := least; kind <= greatest; kind++ {
		for _, name := range hasNot(kind) {
			for _, whole := range []api.Command{{Kind: uint8(kind)}, full(kind)} {
				for _, x := range edges(at(&whole, name)) {
					c := whole
					with(&c, name, x)
					if c == whole {
						continue
					}
					noBytes(t, c)
					if own := Own(c); own != whole {
						t.Fatalf("%+v, not %+v", own, whole)
					}
				}
			}
		}
	}
}

func TestFieldsOfAll(t *testing.T) { // what the tests go by: each kind has some, and hasn't all others
	all := len(fields("", reflect.TypeFor[api.Command]())) - 1
	for kind := least; kind <= greatest; kind++ {
		if len(has(kind)) == 0 || len(has(kind))+len(hasNot(kind)) != all {
			t.Errorf("%d: %v, %v", kind, has(kind), hasNot(kind))
		}
	}
	if got := fields("", reflect.TypeFor[api.Reply]()); !slices.Equal(got, told()) {
		t.Error(got)
	}
}

func TestChangeTellsMore(t *testing.T) { // P15.1, P15.2: than an Id and three curves
	may := api.Spec{Id: 5, Real: api.Curve{First: 4, Length: 10, Rest: 1}, Share: api.Curve{Rest: 3}, Upper: api.Curve{Rest: 9}}
	own := api.Command{Kind: api.CmChange, Spec: may}
	thereAndBack(t, own, "\x03\x0a\x04\x0a\x01\x00\x00\x03\x00\x00\x09")
	for _, more := range []func(s *api.Spec){
		func(s *api.Spec) { s.Parent = 2 },
		func(s *api.Spec) { s.Parent = -1 },
		func(s *api.Spec) { s.Leaf = true },
		func(s *api.Spec) { s.Packets = 10 },
		func(s *api.Spec) { s.Bytes = 1000 },
		func(s *api.Spec) { s.Parent, s.Leaf, s.Packets, s.Bytes = 2, true, 10, 1000 },
	} {
		c := own
		more(&c.Spec)
		noBytes(t, c)
		if got := Own(c); got != own {
			t.Errorf("%+v", got)
		}
		c.Kind = api.CmAdd
		if got, e := Command(c); e != api.OK || Own(c) != c {
			t.Errorf("%+v: %q %d", c, got, e)
		}
	}
}

func TestNoKind(t *testing.T) { // P15.1, P15.2, P15.7: each, of nothing, and of all
	chance := rand.New(rand.NewSource(1))
	for _, kind := range noKinds() {
		for _, c := range []api.Command{{Kind: uint8(kind)}, {Kind: uint8(kind), Id: 5}, {Kind: uint8(kind), To: 300}, someAll(chance, kind)} {
			noBytes(t, c)
			own := Own(c)
			if own != (api.Command{Kind: uint8(kind)}) || Own(own) != own {
				t.Fatalf("%+v: %+v", c, own)
			}
			noBytes(t, own)
		}
	}
}

func TestKindByte(t *testing.T) { // P15.2: of 0, of one behind the last kind, and of each other that is none
	for _, kind := range noKinds() {
		first := string([]byte{uint8(kind)})
		noCommand(t, first)
		for many := range 20 {
			noCommand(t, first+strings.Repeat("\x00", many))
		}
		for of := least; of <= greatest; of++ {
			noCommand(t, first+joined(rows(full(of))[1:]))
		}
	}
}

func TestKindBytesChanged(t *testing.T) { // P15.2, P15.6: each Kind ahead of what each other kind has
	for of := least; of <= greatest; of++ {
		for kind := range 256 {
			judged(t, string([]byte{uint8(kind)})+joined(rows(full(of))[1:]))
			judged(t, string([]byte{uint8(kind)})+joined(rows(api.Command{Kind: uint8(of)})[1:]))
		}
	}
}

func TestReplysFirstByte(t *testing.T) { // P15.3: each that isn't 0
	for _, r := range []api.Reply{{}, fullReply()} {
		s := joined(replyRows(r))
		for first := 1; first < 256; first++ {
			noReply(t, string([]byte{uint8(first)})+s[1:])
		}
		noReply(t, s[1:])
		replyThereAndBack(t, r, s)
	}
}

func TestLeafsFlag(t *testing.T) { // P15.2: each byte
	whole := full(int(api.CmAdd))
	l := rows(whole)
	place := 1 + slices.Index(has(int(api.CmAdd)), "Spec.Leaf")
	for b := range 256 {
		l[place] = string([]byte{uint8(b)})
		if b > 1 {
			noCommand(t, joined(l))
			continue
		}
		c := whole
		c.Spec.Leaf = b == 1
		thereAndBack(t, c, joined(l))
	}
	l[place] = "\x81\x00"
	noCommand(t, joined(l))
}

// otherwise are bytes that would be as many as those of a number, or were too many for one.
func otherwise(number string) []string {
	last := len(number) - 1
	more := number[:last] + string([]byte{number[last] | 128})
	return []string{
		more + "\x00", more + "\x80\x00", more + "\x80\x80\x00", more, "",
		strings.Repeat("\x80", 9) + "\x02", strings.Repeat("\xff", 10), strings.Repeat("\xff", 9) + "\x7f", strings.Repeat("\x80", 10) + "\x01",
	}
}

// instead are rows of bytes like l, joined, with one of them told otherwise.
func instead(l []string) []string {
	var out []string
	for place := 1; place < len(l); place++ {
		for _, other := range otherwise(l[place]) {
			out = append(out, joined(l[:place])+other+joined(l[place+1:]))
		}
	}
	return out
}

func TestToldOtherwise(t *testing.T) { // P15.2, P15.3, P15.5: each number with a last byte that is a 0 too many, more than 64 bits, or no last byte
	for kind := least; kind <= greatest; kind++ {
		for _, c := range []api.Command{{Kind: uint8(kind)}, full(kind)} {
			for _, s := range instead(rows(c)) {
				judged(t, s)
			}
			l := rows(c)
			for place := 1; place < len(l); place++ {
				noCommand(t, joined(l[:place])+otherwise(l[place])[0]+joined(l[place+1:]))
			}
		}
	}
	for _, r := range []api.Reply{{}, fullReply()} {
		l := replyRows(r)
		for _, s := range instead(l) {
			judged(t, s)
		}
		for place := 1; place < len(l); place++ {
			noReply(t, joined(l[:place])+otherwise(l[place])[0]+joined(l[place+1:]))
		}
	}
	noCommand(t, "\x06\xac\x00")
	noCommand(t, "\x07\x80\x00")
	noReply(t, "\x00\x80\x00"+strings.Repeat("\x00", 9))
}

func TestEmpty(t *testing.T) { // P15.2, P15.3
	noCommand(t, "")
	noReply(t, "")
}

func TestNames(t *testing.T) { // P15.4: each kind, and each that is none
	names := []string{least: "config", 2: "add", 3: "change", 4: "delete", 5: "arrive", 6: "advance", greatest: "ask"}
	for kind := least; kind <= greatest; kind++ {
		if name, is := Name(uint8(kind)); name != names[kind] || !is {
			t.Errorf("%d: %q %v", kind, name, is)
		}
		if got, is := Kind(names[kind]); int(got) != kind || !is {
			t.Errorf("%q: %d %v", names[kind], got, is)
		}
	}
	for _, kind := range noKinds() {
		if name, is := Name(uint8(kind)); name != "" || is {
			t.Errorf("%d: %q %v", kind, name, is)
		}
	}
}

func TestNoName(t *testing.T) { // P15.4: the empty one, great letters, blanks, and those that are nearly one
	l := []string{"", " ", "\x00", "\xff", "none", "0", "1", "7", "reply", "set", "configaddchange", "config add", "Config\n", strings.Repeat("ask", 1<<16)}
	for kind := least; kind <= greatest; kind++ {
		name, _ := Name(uint8(kind))
		great := strings.ToUpper(name)
		l = append(l, great, great[:1]+name[1:], name[:len(name)-1]+great[len(name)-1:])
		l = append(l, name+" ", " "+name, name[:1]+" "+name[1:], name+"\t", name+"\n", name+"\x00", name+"s", name+name)
		for many := range name {
			l = append(l, name[:many], name[:many]+name[many+1:])
			if many > 0 {
				l = append(l, name[many:])
			}
		}
	}
	for _, name := range l {
		if kind, is := Kind(name); kind != 0 || is {
			t.Errorf("%q: %d %v", name, kind, is)
		}
	}
}

func TestThereAndBack(t *testing.T) { // P15.2, P15.3, P15.5, P15.6: commands and replies of all sorts
	chance := rand.New(rand.NewSource(2))
	for range 3000 {
		for kind := least; kind <= greatest; kind++ {
			c := some(chance, kind)
			thereAndBack(t, c, joined(rows(c)))
		}
		r := someReply(chance)
		replyThereAndBack(t, r, joined(replyRows(r)))
	}
}

func TestEachShort(t *testing.T) { // P15.2, P15.3, P15.5: all bytes, and all rows of two; longer ones of bytes at the edges
	all := make([]byte, 256)
	for b := range all {
		all[b] = byte(b)
	}
	for _, x := range []struct {
		of   []byte
		most int
	}{
		{all, 2},
		{[]byte{0, 1, 3, 4, 5, 6, 7, 8, 127, 128, 255}, 5},
		{[]byte{0, 1, 128}, 10},
	} {
		l := []string{""}
		for range x.most {
			var longer []string
			for _, s := range l {
				for _, b := range x.of {
					longer = append(longer, s+string([]byte{b}))
				}
			}
			l = longer
			for _, s := range l {
				judged(t, s)
			}
		}
	}
}

func TestWrittenAgain(t *testing.T) { // P15.5: whatever bytes
	chance := rand.New(rand.NewSource(3))
	near := []byte{0, 0, 0, 1, 1, 2, 3, 4, 5, 6, 7, 8, 127, 128, 129, 255}
	for range 40000 {
		b := make([]byte, chance.Intn(20))
		for i := range b {
			b[i] = near[chance.Intn(len(near))]
			if i > 0 && chance.Intn(3) == 0 {
				b[i] = byte(chance.Intn(256))
			}
		}
		judged(t, string(b))
	}
}

func TestWrittenAgainNearly(t *testing.T) { // P15.5: a command's or a reply's bytes with one changed, more, or less, wherever
	chance := rand.New(rand.NewSource(4))
	for i := range 300 {
		s := joined(replyRows(someReply(chance)))
		if kind := i % (greatest + 1); kind >= least {
			s = joined(rows(some(chance, kind)))
		}
		for place := range len(s) {
			b := string([]byte{byte(chance.Intn(256))})
			for _, other := range []string{b, "\x00", "\x01", "\x80", "\xff"} {
				judged(t, s[:place]+other+s[place+1:])
				judged(t, s[:place]+other+s[place:])
			}
			judged(t, s[:place]+s[place+1:])
		}
	}
}

func TestLessOrMore(t *testing.T) { // P15.6: each number of bytes taken away, from either end, and each byte behind
	chance := rand.New(rand.NewSource(5))
	for i := range 200 {
		for kind := least; kind <= greatest; kind++ {
			c := some(chance, kind)
			if i == 0 {
				c = api.Command{Kind: uint8(kind)}
			}
			s := joined(rows(c))
			for many := range len(s) {
				noCommand(t, s[:many])
				noReply(t, s[:many])
			}
			for b := range 256 {
				noCommand(t, s+string([]byte{uint8(b)}))
			}
			for _, behind := range []string{s, "\x00\x00", "\x80\x00", joined(replyRows(someReply(chance))), strings.Repeat("\x00", 1000)} {
				noCommand(t, s+behind)
				noReply(t, s+behind)
			}
		}
	}
}

func TestLessOrMoreOfReplies(t *testing.T) { // P15.6
	chance := rand.New(rand.NewSource(6))
	for i := range 200 {
		r := someReply(chance)
		if i == 0 {
			r = api.Reply{}
		}
		s := joined(replyRows(r))
		for many := range len(s) {
			noReply(t, s[:many])
			noCommand(t, s[:many])
		}
		for b := range 256 {
			noReply(t, s+string([]byte{uint8(b)}))
		}
		for _, behind := range []string{s, "\x00\x00", "\x80\x00", strings.Repeat("\x00", 1000)} {
			noReply(t, s+behind)
			noCommand(t, s+behind)
		}
	}
}

func TestTooManyBytes(t *testing.T) { // P15.2, P15.3: more than a pen writes
	for first := range 256 {
		for _, b := range []string{"\x00", "\x01", "\x80", "\xff"} {
			s := string([]byte{uint8(first)}) + strings.Repeat(b, 1<<14)
			noCommand(t, s)
			noReply(t, s)
		}
	}
}

// each holds the bytes of each against all others': apart they are, and read as just what they were.
func each[T comparable](t *testing.T, l []T, write func(T) (string, api.Errno), seen map[string]T) {
	t.Helper()
	for _, x := range l {
		s, e := write(x)
		if e != api.OK {
			t.Fatalf("%+v: %d", x, e)
		}
		if other, is := seen[s]; is && other != x {
			t.Fatalf("%q: %+v, %+v", s, x, other)
		}
		seen[s] = x
	}
}

func TestOneFieldApart(t *testing.T) { // P15.5, P15.6: no two commands have the same bytes, nor have two replies
	seen, seenReplies := map[string]api.Command{}, map[string]api.Reply{}
	for kind := least; kind <= greatest; kind++ {
		for _, whole := range []api.Command{{Kind: uint8(kind)}, full(kind)} {
			for _, name := range has(kind) {
				var l []api.Command
				for _, x := range edges(at(&whole, name)) {
					c := whole
					with(&c, name, x)
					l = append(l, c)
				}
				each(t, l, Command, seen)
			}
		}
	}
	for _, whole := range []api.Reply{{}, fullReply()} {
		for _, name := range told() {
			var l []api.Reply
			for _, x := range edges(at(&whole, name)) {
				r := whole
				with(&r, name, x)
				l = append(l, r)
			}
			each(t, l, Reply, seenReplies)
		}
	}
	for s := range seen {
		if _, is := seenReplies[s]; is {
			t.Errorf("%q is both", s)
		}
	}
}

func TestKindsApart(t *testing.T) { // P15.6: of the same numbers
	c := full(int(api.CmDelete))
	a, _ := Command(c)
	c.Kind = api.CmAsk
	b, _ := Command(c)
	if a == b || a[1:] != b[1:] {
		t.Errorf("%q %q", a, b)
	}
	seen := map[string]api.Command{}
	var l []api.Command
	for kind := least; kind <= greatest; kind++ {
		l = append(l, api.Command{Kind: uint8(kind)}, full(kind))
	}
	each(t, l, Command, seen)
	if len(seen) != len(l) {
		t.Errorf("%d, not %d", len(seen), len(l))
	}
}

func TestOneAsTheOther(t *testing.T) { // P15.6: a command's bytes as a reply's, a reply's as a command's, and with the other one's first byte
	chance := rand.New(rand.NewSource(7))
	for range 500 {
		s := joined(replyRows(someReply(chance)))
		noCommand(t, s)
		for kind := least; kind <= greatest; kind++ {
			judged(t, string([]byte{uint8(kind)})+s[1:])
			judged(t, string([]byte{uint8(kind)})+s)
			own := joined(rows(some(chance, kind)))
			noReply(t, own)
			judged(t, "\x00"+own[1:])
			judged(t, "\x00"+own)
		}
	}
}

func TestOwn(t *testing.T) { // P15.1, P15.7: of whatever command, of each kind, and of each that is none
	chance := rand.New(rand.NewSource(8))
	for range 200 {
		for kind := range 256 {
			c := someAll(chance, kind)
			own := Own(c)
			if own != ownOf(c) {
				t.Fatalf("%+v: %+v, not %+v", c, own, ownOf(c))
			}
			if again := Own(own); again != own {
				t.Fatalf("%+v again: %+v", own, again)
			}
			if kind < least || kind > greatest {
				noBytes(t, own)
				continue
			}
			thereAndBack(t, own, joined(rows(c)))
		}
	}
}

func TestMayBeTold(t *testing.T) { // P15.2, P15.7: just those of a Kind that is one, with nothing that it hasn't
	chance := rand.New(rand.NewSource(9))
	all := fields("", reflect.TypeFor[api.Command]())[1:]
	for range 20000 {
		c := api.Command{Kind: uint8(chance.Intn(greatest + 3))}
		for range chance.Intn(3) {
			place := chance.Intn(len(all))
			chosen(chance, &c, all[place:place+1])
		}
		if c.Kind >= least && c.Kind <= greatest && ownOf(c) == c {
			thereAndBack(t, c, joined(rows(c)))
			continue
		}
		noBytes(t, c)
	}
}

func TestOrdinary(t *testing.T) { // P15.2: a day's commands, one behind the other, each read from its own bytes
	day := []api.Command{
		{Kind: api.CmConfig, Config: api.Config{Rate: 2560, Most: 1500, Horizon: api.MaxTick}},
		{Kind: api.CmAdd, Spec: api.Spec{Id: 2, Share: api.Curve{Rest: 100}}},
		{Kind: api.CmAdd, Spec: api.Spec{Id: 5, Parent: 2, Leaf: true, Real: api.Curve{First: 4, Length: 10, Rest: 1}, Share: api.Curve{Rest: 3}, Upper: api.Curve{Rest: api.MaxSlope}, Packets: api.MaxQueue, Bytes: api.MaxRoom}},
		{Kind: api.CmChange, Spec: api.Spec{Id: 2, Share: api.Curve{Rest: 300}}},
		{Kind: api.CmArrive, Packet: api.Packet{Id: 1, Class: 5, Length: 100, At: 7}},
		{Kind: api.CmAdvance, To: 300},
		{Kind: api.CmAsk, Id: 5},
		{Kind: api.CmAsk},
		{Kind: api.CmDelete, Id: 5},
	}
	for _, c := range day {
		thereAndBack(t, c, joined(rows(c)))
	}
	for _, r := range []api.Reply{
		{Now: 300, Stats: api.Stats{Came: 4, Refused: 1, Sent: 2, Bytes: 200, Real: 100, Share: 100, Waiting: 1, Held: 100}},
		{Code: api.ErrQueue, Now: 300},
		{Code: api.ErrStopped, Now: api.Never},
	} {
		replyThereAndBack(t, r, joined(replyRows(r)))
	}
}
