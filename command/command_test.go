package command

import (
	"errors"
	"math"
	"math/rand"
	"runtime"
	"strings"
	"testing"
	"unsafe"

	"coxswain/api"
	"coxswain/codec"
	"coxswain/header"
)

// names answers the key of n names, all of them unlike.
func names(n int) string {
	var l []api.ID
	for i := range n {
		l = append(l, api.ID{byte(i + 1), 31: 0xee})
	}
	return header.Key(l...)
}

// long answers a text of n bytes.
func long(n int) string { return strings.Repeat("x", n) }

// foreign has a kind of ours, and is no command.
type foreign struct{ kind int }

func (f foreign) Kind() int { return f.kind }

// bad panics when it is asked for its Kind.
type bad struct{}

func (bad) Kind() int { panic("asked for its Kind") }

// wrapped has a command's calls by promotion, and is none.
type wrapped struct{ Clock }

// alias is of a command's form, and is none.
type alias Clock

func (alias) Kind() int { return ClockKind }

// nothing has none behind it: its Kind panics.
type nothing struct{ Command }

// list is of a type that can't be held against another one.
type list []int

func (list) Kind() int { return UnmarkKind }

// strangers: what is no command.
func strangers() map[string]Command {
	return map[string]Command{
		"nil": nil, "foreign 1": foreign{1}, "foreign 5": foreign{5}, "foreign 0": foreign{}, "foreign -1": foreign{-1},
		"bad": bad{}, "wrapped": wrapped{Clock{5}}, "alias": alias{5}, "nothing": nothing{}, "list": list{1}, "pointer to foreign": &foreign{3},
		"pointer to Block": &Block{}, "pointer to Cert": &Cert{}, "pointer to Clock": &Clock{5}, "pointer to Mark": &Mark{names(1)}, "pointer to Unmark": &Unmark{},
		"nil Block": (*Block)(nil), "nil Cert": (*Cert)(nil), "nil Clock": (*Clock)(nil), "nil Mark": (*Mark)(nil), "nil Unmark": (*Unmark)(nil),
	}
}

// good: commands that may be, with their bytes.
func good() []struct {
	c     Command
	bytes string
} {
	return []struct {
		c     Command
		bytes string
	}{
		{Block{}, "\x01\x01\x00\x00"},
		{Block{Right: true}, "\x01\x01\x01\x01\x00"},
		{Block{Bytes: "ab", Right: true}, "\x01\x01\x01\x01\x01\x02ab"},
		{Block{Bytes: "ab"}, "\x01\x01\x00\x01\x02ab"},
		{Block{Bytes: "\x00"}, "\x01\x01\x00\x01\x01\x00"},
		{Block{Bytes: "\xff\xfe", Right: true}, "\x01\x01\x01\x01\x01\x02\xff\xfe"},
		{Block{Bytes: long(255)}, "\x01\x01\x00\x01\xff" + long(255)},
		{Block{Bytes: long(256)}, "\x01\x01\x00\x02\x01\x00" + long(256)},
		{Block{Bytes: long(4096), Right: true}, "\x01\x01\x01\x01\x02\x10\x00" + long(4096)},
		{Cert{}, "\x01\x02\x00\x00"},
		{Cert{Right: true}, "\x01\x02\x01\x01\x00"},
		{Cert{Bytes: "ab", Right: true}, "\x01\x02\x01\x01\x01\x02ab"},
		{Cert{Bytes: "ab"}, "\x01\x02\x00\x01\x02ab"},
		{Cert{Bytes: long(4096)}, "\x01\x02\x00\x02\x10\x00" + long(4096)},
		{Clock{}, "\x01\x03\x00"},
		{Clock{1}, "\x01\x03\x01\x01"},
		{Clock{5}, "\x01\x03\x01\x05"},
		{Clock{255}, "\x01\x03\x01\xff"},
		{Clock{256}, "\x01\x03\x02\x01\x00"},
		{Clock{1 << 30}, "\x01\x03\x04\x40\x00\x00\x00"},
		{Clock{1<<30 - 1}, "\x01\x03\x04\x3f\xff\xff\xff"},
		{Mark{names(1)}, "\x01\x04\x01\x20" + names(1)},
		{Mark{names(2)}, "\x01\x04\x01\x40" + names(2)},
		{Mark{names(5)}, "\x01\x04\x01\xa0" + names(5)},
		{Mark{header.Key(header.Root())}, "\x01\x04\x01\x20" + header.Key(header.Root())},
		{Unmark{}, "\x01\x05"},
	}
}

// wrong: commands that may not be, and what Check tells of them.
func wrong() []struct {
	name string
	c    Command
	want api.Errno
} {
	return []struct {
		name string
		c    Command
		want api.Errno
	}{
		{"a block of 4097 bytes", Block{Bytes: long(4097)}, api.ErrBig},
		{"a block of 4097 bytes, which is right", Block{Bytes: long(4097), Right: true}, api.ErrBig},
		{"a certificate of 4097 bytes", Cert{Bytes: long(4097)}, api.ErrBig},
		{"a certificate of a million bytes", Cert{Bytes: long(1000000), Right: true}, api.ErrBig},
		{"the least epoch", Clock{math.MinInt}, api.ErrArg},
		{"epoch -1", Clock{-1}, api.ErrArg},
		{"epoch 2^30 + 1", Clock{1<<30 + 1}, api.ErrArg},
		{"epoch 2^31", Clock{1 << 31}, api.ErrArg},
		{"epoch 2^62", Clock{1 << 62}, api.ErrArg},
		{"epoch 2^62 + 1", Clock{1<<62 + 1}, api.ErrArg},
		{"the greatest epoch", Clock{math.MaxInt}, api.ErrArg},
		{"a key of no names", Mark{}, api.ErrArg},
		{"a key of 6 names", Mark{names(6)}, api.ErrArg},
		{"a key of 31 bytes", Mark{names(1)[1:]}, api.ErrArg},
		{"a key of 33 bytes", Mark{names(1) + "x"}, api.ErrArg},
		{"a key that falls", Mark{names(2)[32:] + names(1)}, api.ErrArg},
		{"a key of a name twice", Mark{names(1) + names(1)}, api.ErrArg},
		{"a key of 128 names, 4096 bytes", Mark{names(128)}, api.ErrArg},
		{"a key of 4096 bytes", Mark{long(4096)}, api.ErrArg},
		{"a key of 4097 bytes", Mark{long(4097)}, api.ErrBig},
		{"a key of 129 names, 4128 bytes", Mark{names(129)}, api.ErrBig},
	}
}

// P20.1: the kinds, and that each type has its own.
func TestKinds(t *testing.T) {
	if BlockKind != 1 || CertKind != 2 || ClockKind != 3 || MarkKind != 4 || UnmarkKind != 5 {
		t.Error("P20.1: other kinds")
	}
	for i, c := range []Command{Block{}, Cert{}, Clock{}, Mark{}, Unmark{}} {
		if c.Kind() != i+1 {
			t.Errorf("P20.1: kind %d, want %d", c.Kind(), i+1)
		}
	}
	for i, c := range []Command{Block{long(9999), true}, Cert{long(9999), true}, Clock{-1}, Mark{"x"}} {
		if c.Kind() != i+1 {
			t.Errorf("P20.1: kind %d of one that may not be, want %d", c.Kind(), i+1)
		}
	}
	const untyped = UnmarkKind
	if f := 1.5 * untyped; f != 7.5 {
		t.Error("P20.1: kinds have a type")
	}
}

// P20.1: what Check lets, and the first thing that is wrong of all else.
func TestCheck(t *testing.T) {
	for _, c := range good() {
		if e := Check(c.c); e != api.OK {
			t.Errorf("P20.1: Check of %x: %d", c.bytes, e)
		}
	}
	for _, c := range wrong() {
		if e := Check(c.c); e != c.want {
			t.Errorf("P20.1: Check of %s: %d, want %d", c.name, e, c.want)
		}
	}
	for name, c := range strangers() {
		if e := Check(c); e != api.ErrKind {
			t.Errorf("P20.1: Check of %s: %d", name, e)
		}
	}
	for n := range 8 {
		want := api.ErrArg
		if n >= 1 && n <= 5 {
			want = api.OK
		}
		if e := Check(Mark{names(n)}); e != want {
			t.Errorf("P20.1: Check of a key of %d names: %d, want %d", n, e, want)
		}
	}
}

// P20.1, P20.2: bytes of what may be; there and back.
func TestBytes(t *testing.T) {
	for _, c := range good() {
		if s := Bytes(c.c); s != c.bytes {
			t.Errorf("P20.1: Bytes of kind %d: %x, want %x", c.c.Kind(), s, c.bytes)
		}
		if x, e := Parse(c.bytes); x != c.c || e != api.OK {
			t.Errorf("P20.2: Parse of %x: %v, %d", c.bytes, x, e)
		}
	}
}

// P20.1: what Check doesn't let has no bytes.
func TestNoBytes(t *testing.T) {
	for _, c := range wrong() {
		if s := Bytes(c.c); s != "" {
			t.Errorf("P20.1: Bytes of %s: %x", c.name, s)
		}
	}
	for name, c := range strangers() {
		if s := Bytes(c); s != "" {
			t.Errorf("P20.1: Bytes of %s: %x", name, s)
		}
	}
}

// number answers a number's bytes.
func number(x int) string {
	var o codec.Out
	return o.Num(x).Bytes()
}

// text answers a text's bytes.
func text(s string) string { return number(len(s)) + s }

// P20.1, P7: each error of Parse, and which one is told first; nil beside it.
func TestParseErrors(t *testing.T) {
	const half = "\x01\x04\x01\x20" // a key of 32 bytes, without these
	for _, c := range []struct {
		name, bytes string
		want        api.Errno
	}{
		{"no bytes", "", api.ErrEnd},
		{"a kind without its byte", "\x01", api.ErrEnd},
		{"a kind in a form that can't be", "\x01\x00", api.ErrForm},
		{"a kind of nine bytes", "\x09", api.ErrForm},
		{"a kind of 2^63", "\x08\x80\x00\x00\x00\x00\x00\x00\x00", api.ErrForm},
		{"kind 256", "\x02\x01\x00", api.ErrBig},
		{"kind 257, a block's bytes behind it", "\x02\x01\x01\x01\x01\x01\x02ab", api.ErrBig},
		{"kind 256, half", "\x02\x01", api.ErrEnd},
		{"the greatest kind", number(math.MaxInt), api.ErrBig},

		{"kind 0", "\x00", api.ErrKind}, {"kind 0, with bytes behind it", "\x00\x01\x05", api.ErrKind}, {"kind 0, what can't be behind it", "\x00\xff", api.ErrKind},
		{"kind 6", "\x01\x06", api.ErrKind}, {"kind 6, with bytes behind it", "\x01\x06\x00\x00", api.ErrKind}, {"kind 6, what can't be behind it", "\x01\x06\x01\x00", api.ErrKind},
		{"kind 7, half a number behind it", "\x01\x07\x01", api.ErrKind}, {"kind 255", "\x01\xff", api.ErrKind}, {"kind 255, with bytes behind it", "\x01\xffx", api.ErrKind},

		{"Right of 2, of a block", "\x01\x01\x01\x02\x00", api.ErrBig}, {"Right of 2, of a certificate", "\x01\x02\x01\x02\x00", api.ErrBig},
		{"Right of 2, nothing behind it", "\x01\x01\x01\x02", api.ErrBig}, {"Right of 256", "\x01\x02\x02\x01\x00\x00", api.ErrBig},
		{"Right of 2^63", "\x01\x01\x08\x80\x00\x00\x00\x00\x00\x00\x00", api.ErrForm}, {"Right of a nought", "\x01\x01\x01\x00\x00", api.ErrForm},
		{"Right of 2, a text that is too long", "\x01\x01\x01\x02" + text(long(4097)), api.ErrBig},
		{"no Right", "\x01\x02", api.ErrEnd}, {"Right without its byte", "\x01\x02\x01", api.ErrEnd}, {"no text", "\x01\x01\x00", api.ErrEnd},

		{"a block of 4097 bytes", "\x01\x01\x00" + text(long(4097)), api.ErrBig}, {"a certificate of 4097 bytes", "\x01\x02\x01\x01" + text(long(4097)), api.ErrBig},
		{"a block of 4097 bytes, which are wanting", "\x01\x01\x00" + number(4097), api.ErrBig}, {"a certificate of 2^62 bytes", "\x01\x02\x00" + number(1<<62), api.ErrBig},
		{"a block of 4096 bytes, one of which is wanting", "\x01\x01\x00" + number(4096) + long(4095), api.ErrEnd},
		{"a block of 4097 bytes, and more", "\x01\x01\x00" + text(long(4097)) + "x", api.ErrBig},

		{"epoch 2^30 + 1", "\x01\x03" + number(1<<30+1), api.ErrArg}, {"epoch 2^62", "\x01\x03" + number(1<<62), api.ErrArg},
		{"epoch 2^62 + 1", "\x01\x03" + number(1<<62+1), api.ErrBig}, {"the greatest epoch", "\x01\x03" + number(math.MaxInt), api.ErrBig},
		{"epoch 2^63", "\x01\x03\x08\x80\x00\x00\x00\x00\x00\x00\x00", api.ErrForm}, {"an epoch of a nought", "\x01\x03\x01\x00", api.ErrForm},
		{"no epoch", "\x01\x03", api.ErrEnd}, {"epoch 2^62, and more", "\x01\x03" + number(1<<62) + "x", api.ErrForm}, {"epoch 2^62 + 1, and more", "\x01\x03" + number(1<<62+1) + "x", api.ErrBig},

		{"a key of 4097 bytes", "\x01\x04" + text(long(4097)), api.ErrBig}, {"a key of 129 names", "\x01\x04" + text(names(129)), api.ErrBig},
		{"a key of 4097 bytes, which are wanting", "\x01\x04" + number(4097), api.ErrBig}, {"a key of 4097 bytes, and more", "\x01\x04" + text(long(4097)) + "x", api.ErrBig},
		{"a key of 4096 bytes", "\x01\x04" + text(long(4096)), api.ErrArg}, {"a key of 128 names", "\x01\x04" + text(names(128)), api.ErrArg},
		{"a key of no names", "\x01\x04\x00", api.ErrArg}, {"a key of 6 names", "\x01\x04" + text(names(6)), api.ErrArg},
		{"a key of a name twice", "\x01\x04" + text(names(1)+names(1)), api.ErrArg}, {"a key that falls", "\x01\x04" + text(names(2)[32:]+names(1)), api.ErrArg},
		{"a key of 31 bytes", "\x01\x04" + text(long(31)), api.ErrArg}, {"no key", "\x01\x04", api.ErrEnd}, {"a key without its bytes", half, api.ErrEnd},
		{"a key of 32 bytes, one of which is wanting", half + names(1)[1:], api.ErrEnd}, {"a key of no names, and more", "\x01\x04\x00x", api.ErrForm},

		{"an unmark, and more", "\x01\x05\x00", api.ErrForm}, {"two unmarks", "\x01\x05\x01\x05", api.ErrForm},
	} {
		if x, e := Parse(c.bytes); x != nil || e != c.want {
			t.Errorf("P20.1: Parse of %s: %v, %d, want %d", c.name, x, e, c.want)
		}
	}
}

// P20.1, P20.2, P7: of a command's bytes each beginning wants more, and none may
// have more behind it.
func TestBeginnings(t *testing.T) {
	for _, c := range good() {
		for n := range len(c.bytes) {
			if x, e := Parse(c.bytes[:n]); x != nil || e != api.ErrEnd {
				t.Fatalf("P20.2: %d bytes of %x: %v, %d", n, c.bytes, x, e)
			}
		}
		for _, more := range []string{"\x00", "x", "\xff", c.bytes, long(5000)} {
			if x, e := Parse(c.bytes + more); x != nil || e != api.ErrForm {
				t.Fatalf("P20.2: more behind %x: %v, %d", c.bytes, x, e)
			}
		}
	}
}

// back tells where bytes are a command's, and another command's, or not the
// command's own; it answers whether they are a command's.
func back(t *testing.T, s string) bool {
	t.Helper()
	c, e := Parse(s)
	if e != api.OK {
		if c != nil {
			t.Fatalf("P7: %x: %v beside %d", s, c, e)
		}
		return false
	}
	if Check(c) != api.OK || Bytes(c) != s || Name(c) == "" {
		t.Fatalf("P20.2: %x: %v, whose bytes are %x", s, c, Bytes(c))
	}
	return true
}

// P20.2, P7: all bytes of a few letters: where they are a command's they are the
// only ones.
func TestAllBytes(t *testing.T) {
	letters := []byte{0, 1, 2, 3, 4, 5, 6, 8, 9, 0x40, 0xff}
	commands := 0
	var walk func(s []byte, left int)
	walk = func(s []byte, left int) {
		if back(t, string(s)) {
			commands++
		}
		if left == 0 {
			return
		}
		for _, b := range letters {
			walk(append(s, b), left-1)
		}
	}
	walk(nil, 5)
	if commands < 100 {
		t.Errorf("%d commands", commands)
	}
}

// P20.2, P7: a command's bytes with some changed, taken away, or put in.
func TestChangedBytes(t *testing.T) {
	r := rand.New(rand.NewSource(20))
	commands := 0
	for _, c := range good() {
		for range 3000 {
			s := []byte(c.bytes)
			for range 1 + r.Intn(3) {
				at := r.Intn(min(len(s), 80) + 1)
				switch r.Intn(3) {
				case 0:
					s = append(s[:at], append([]byte{byte(r.Intn(256))}, s[at:]...)...)
				case 1:
					s = append(s[:at], s[min(at+1, len(s)):]...)
				default:
					if at < len(s) {
						s[at] = byte(r.Intn(256))
					}
				}
			}
			if back(t, string(s)) {
				commands++
			}
		}
	}
	if commands < 100 {
		t.Errorf("%d commands", commands)
	}
}

// P20.2: unlike commands have unlike bytes; any one comes back.
func TestUnlike(t *testing.T) {
	seen := map[string]Command{}
	put := func(c Command) {
		s := Bytes(c)
		if x, there := seen[s]; there && x != c || s == "" {
			t.Fatalf("P20.2: %v and %v have the bytes %x", x, c, s)
		}
		seen[s] = c
		if x, e := Parse(s); x != c || e != api.OK {
			t.Fatalf("P20.2: %v came back as %v, %d", c, x, e)
		}
	}
	for _, c := range good() {
		put(c.c)
	}
	r := rand.New(rand.NewSource(5))
	for range 2000 {
		b := make([]byte, r.Intn(40))
		for i := range b {
			b[i] = byte(r.Intn(3))
		}
		put(Block{string(b), false})
		put(Block{string(b), true})
		put(Cert{string(b), false})
		put(Cert{string(b), true})
		put(Clock{r.Intn(1<<30+1) >> r.Intn(31)})
		var l []api.ID
		for range 1 + r.Intn(5) {
			l = append(l, api.ID{byte(r.Intn(256)), byte(r.Intn(256))})
		}
		put(Mark{header.Key(l...)})
	}
	if len(seen) < 5000 {
		t.Errorf("%d commands", len(seen))
	}
}

// epoch answers what Epoch answers, and what it panics with: nil, if it doesn't.
func epoch(c Command) (x int, broke any) {
	defer func() { broke = recover() }()
	return Epoch(c), nil
}

// P20.1, P20.3: the epoch of each Clock, also of one that may not be; all else
// panics, as Go's own type assertion does.
func TestEpoch(t *testing.T) {
	for _, want := range []int{math.MinInt, -1, 0, 1, 9, 1 << 30, 1<<30 + 1, math.MaxInt} {
		if x, broke := epoch(Clock{want}); x != want || broke != nil {
			t.Errorf("P20.3: Epoch of %d: %d, %v", want, x, broke)
		}
	}
	others := strangers()
	for _, c := range []Command{Block{}, Block{"ab", true}, Cert{}, Cert{"ab", true}, Mark{}, Mark{names(1)}, Unmark{}} {
		others[Name(c)+Bytes(c)] = c
	}
	for name, c := range others {
		x, broke := epoch(c)
		e, is := broke.(error)
		var assertion *runtime.TypeAssertionError
		if x != 0 || !is || !errors.As(e, &assertion) {
			t.Errorf("P20.3: Epoch of %s: %d, %v", name, x, broke)
		}
	}
}

// P20.1: the word for each kind, also of one that may not be; none of all else.
func TestName(t *testing.T) {
	for want, l := range map[string][]Command{
		"block": {Block{}, Block{"ab", true}, Block{long(4097), false}}, "cert": {Cert{}, Cert{"ab", true}, Cert{long(4097), false}},
		"clock": {Clock{}, Clock{5}, Clock{-1}, Clock{1<<30 + 1}}, "mark": {Mark{}, Mark{names(1)}, Mark{long(4097)}}, "unmark": {Unmark{}},
	} {
		for _, c := range l {
			if got := Name(c); got != want {
				t.Errorf("P20.1: Name %q, want %q", got, want)
			}
		}
	}
	for name, c := range strangers() {
		if got := Name(c); got != "" {
			t.Errorf("P20.1: Name of %s: %q", name, got)
		}
	}
}

// P20.1: what is answered shares no memory with what was handed in.
func TestMemory(t *testing.T) {
	pointer := func(s string) *byte { return unsafe.StringData(s) }
	within := func(s, whole string) bool {
		at, from := uintptr(unsafe.Pointer(pointer(s))), uintptr(unsafe.Pointer(pointer(whole)))
		return at >= from && at < from+uintptr(len(whole))
	}
	for _, c := range []Command{Block{long(100), true}, Cert{long(100), false}, Mark{names(5)}} {
		s := Bytes(c)
		x, _ := Parse(s)
		y, _ := Parse(s)
		fields := func(c Command) string {
			switch c := c.(type) {
			case Block:
				return c.Bytes
			case Cert:
				return c.Bytes
			}
			return c.(Mark).Key
		}
		if within(fields(x), s) || within(fields(c), s) || pointer(fields(x)) == pointer(fields(y)) || pointer(Bytes(c)) == pointer(s) {
			t.Errorf("P20.1: %s shares memory", Name(c))
		}
	}
}
