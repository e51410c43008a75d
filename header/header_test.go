package header

import (
	"crypto/sha256"
	"math"
	"math/rand"
	"reflect"
	"slices"
	"strings"
	"testing"
	"unsafe"

	"coxswain/api"
)

// ids answers n names that rise, each with unlike bytes at both its ends.
func ids(n int) []api.ID {
	l := make([]api.ID, n)
	for i := range l {
		l[i][0], l[i][31] = byte(i/3+1), byte(i%3+7)
	}
	return l
}

// good answers a header that may be.
func good() Header {
	return Header{Height: 3, Miner: 7, Ticket: "tk", Wins: 2, Power: 300, Parents: ids(2), Salt: 1}
}

// edges: each field beside its edges, whether the header may be then, and what
// Parse answers of its bytes (of numbers without bytes those of 0 stand there).
var edges = []struct {
	name        string
	set         func(h *Header)
	check, read api.Errno
}{
	{"height, the least int", func(h *Header) { h.Height = math.MinInt }, api.ErrArg, api.ErrArg},
	{"height -1", func(h *Header) { h.Height = -1 }, api.ErrArg, api.ErrArg},
	{"height 0", func(h *Header) { h.Height = 0 }, api.ErrArg, api.ErrArg},
	{"height 1", func(h *Header) { h.Height = 1 }, api.OK, api.OK},
	{"height 2^30", func(h *Header) { h.Height = 1 << 30 }, api.OK, api.OK},
	{"height 2^30 + 1", func(h *Header) { h.Height = 1<<30 + 1 }, api.ErrArg, api.ErrArg},
	{"height 2^62", func(h *Header) { h.Height = 1 << 62 }, api.ErrArg, api.ErrArg},
	{"height 2^62 + 1", func(h *Header) { h.Height = 1<<62 + 1 }, api.ErrArg, api.ErrBig},
	{"miner -1", func(h *Header) { h.Miner = -1 }, api.ErrArg, api.OK},
	{"miner 0", func(h *Header) { h.Miner = 0 }, api.OK, api.OK},
	{"miner 63", func(h *Header) { h.Miner = 63 }, api.OK, api.OK},
	{"miner 64", func(h *Header) { h.Miner = 64 }, api.ErrArg, api.ErrArg},
	{"miner 2^62", func(h *Header) { h.Miner = 1 << 62 }, api.ErrArg, api.ErrArg},
	{"miner, the greatest int", func(h *Header) { h.Miner = math.MaxInt }, api.ErrArg, api.ErrBig},
	{"no ticket", func(h *Header) { h.Ticket = "" }, api.ErrArg, api.ErrArg},
	{"ticket of 1 byte", func(h *Header) { h.Ticket = "\x00" }, api.OK, api.OK},
	{"ticket of 8 bytes", func(h *Header) { h.Ticket = "\x00\xff345678" }, api.OK, api.OK},
	{"ticket of 9 bytes", func(h *Header) { h.Ticket = "123456789" }, api.ErrArg, api.ErrBig},
	{"ticket of 300 bytes", func(h *Header) { h.Ticket = strings.Repeat("t", 300) }, api.ErrArg, api.ErrBig},
	{"wins -1", func(h *Header) { h.Wins = -1 }, api.ErrArg, api.ErrArg},
	{"wins 0", func(h *Header) { h.Wins = 0 }, api.ErrArg, api.ErrArg},
	{"wins 1", func(h *Header) { h.Wins = 1 }, api.OK, api.OK},
	{"wins 15", func(h *Header) { h.Wins = 15 }, api.OK, api.OK},
	{"wins 16", func(h *Header) { h.Wins = 16 }, api.ErrArg, api.ErrArg},
	{"wins 2^62", func(h *Header) { h.Wins = 1 << 62 }, api.ErrArg, api.ErrArg},
	{"wins 2^62 + 1", func(h *Header) { h.Wins = 1<<62 + 1 }, api.ErrArg, api.ErrBig},
	{"power 0", func(h *Header) { h.Power = 0 }, api.ErrArg, api.ErrArg},
	{"power 1", func(h *Header) { h.Power = 1 }, api.ErrArg, api.ErrArg},
	{"power 2", func(h *Header) { h.Power = 2 }, api.OK, api.OK},
	{"power 2^62", func(h *Header) { h.Power = 1 << 62 }, api.OK, api.OK},
	{"power 2^62 + 1", func(h *Header) { h.Power = 1<<62 + 1 }, api.ErrArg, api.ErrBig},
	{"power 2^63 - 1", func(h *Header) { h.Power = 1<<63 - 1 }, api.ErrArg, api.ErrBig},
	{"power 2^63", func(h *Header) { h.Power = 1 << 63 }, api.ErrArg, api.ErrArg},
	{"power 2^63 + 2", func(h *Header) { h.Power = 1<<63 + 2 }, api.ErrArg, api.ErrArg},
	{"power 2^64 - 1", func(h *Header) { h.Power = math.MaxUint64 }, api.ErrArg, api.ErrArg},
	{"parents nil", func(h *Header) { h.Parents = nil }, api.ErrArg, api.ErrArg},
	{"no parents", func(h *Header) { h.Parents = []api.ID{} }, api.ErrArg, api.ErrArg},
	{"1 parent", func(h *Header) { h.Parents = ids(1) }, api.OK, api.OK},
	{"1 parent, of noughts", func(h *Header) { h.Parents = []api.ID{{}} }, api.OK, api.OK},
	{"5 parents", func(h *Header) { h.Parents = ids(5) }, api.OK, api.OK},
	{"6 parents", func(h *Header) { h.Parents = ids(6) }, api.ErrBig, api.ErrBig},
	{"300 parents", func(h *Header) { h.Parents = ids(300) }, api.ErrBig, api.ErrBig},
	{"parents that fall", func(h *Header) { slices.Reverse(h.Parents) }, api.ErrArg, api.ErrArg},
	{"a parent twice", func(h *Header) { h.Parents[1] = h.Parents[0] }, api.ErrArg, api.ErrArg},
	{"the last parent twice, of 5", func(h *Header) { h.Parents = append(ids(4), ids(4)[3]) }, api.ErrArg, api.ErrArg},
	{"a parent out of its place, of 5", func(h *Header) { h.Parents = append(ids(5)[1:], ids(1)[0]) }, api.ErrArg, api.ErrArg},
	{"parents that rise by a byte above 127", func(h *Header) { h.Parents = []api.ID{{0x7f}, {0x80}} }, api.OK, api.OK},
	{"parents that rise by the last byte", func(h *Header) { h.Parents = []api.ID{{31: 1}, {31: 2}} }, api.OK, api.OK},
	{"parents that fall by the last byte", func(h *Header) { h.Parents = []api.ID{{31: 2}, {31: 1}} }, api.ErrArg, api.ErrArg},
	{"salt -1", func(h *Header) { h.Salt = -1 }, api.ErrArg, api.OK},
	{"salt 0", func(h *Header) { h.Salt = 0 }, api.OK, api.OK},
	{"salt 2^30", func(h *Header) { h.Salt = 1 << 30 }, api.OK, api.OK},
	{"salt 2^30 + 1", func(h *Header) { h.Salt = 1<<30 + 1 }, api.ErrArg, api.ErrArg},
	{"salt 2^62", func(h *Header) { h.Salt = 1 << 62 }, api.ErrArg, api.ErrArg},
	{"salt 2^62 + 1", func(h *Header) { h.Salt = 1<<62 + 1 }, api.ErrArg, api.ErrBig},
	{"6 parents, all else wrong", func(h *Header) { *h = Header{Height: -1, Miner: -1, Salt: -1, Parents: ids(6)} }, api.ErrBig, api.ErrBig},
	{"6 parents that fall", func(h *Header) { h.Parents = ids(6); slices.Reverse(h.Parents) }, api.ErrBig, api.ErrBig},
	{"height 0, ticket of 9 bytes", func(h *Header) { h.Height, h.Ticket = 0, "123456789" }, api.ErrArg, api.ErrBig},
	{"zero", func(h *Header) { *h = Header{} }, api.ErrArg, api.ErrArg},
	{"genesis", func(h *Header) { *h = Genesis() }, api.ErrArg, api.ErrArg},
}

// zero tells where an answer beside an error isn't zero.
func zero(t *testing.T, promise, name string, h Header) {
	t.Helper()
	if !reflect.DeepEqual(h, Header{}) {
		t.Errorf("%s: %s: beside an error: %v", promise, name, h)
	}
}

// P5.1: which headers may be, and what is told of those that may not.
func TestCheck(t *testing.T) {
	if e := good().Check(); e != api.OK {
		t.Fatalf("P5.1: a good header: %d", e)
	}
	for _, c := range edges {
		h := good()
		c.set(&h)
		if e := h.Check(); e != c.check {
			t.Errorf("P5.1: %s: Check %d, want %d", c.name, e, c.check)
		}
	}
}

// P5.1, P5.2: what is read of the bytes of headers, also of those that may not
// be.
func TestParseEdges(t *testing.T) {
	for _, c := range edges {
		h := good()
		c.set(&h)
		s := h.Bytes()
		x, e := Parse(s)
		if e != c.read {
			t.Errorf("P5.1: %s: Parse %d, want %d", c.name, e, c.read)
		}
		if e != api.OK {
			zero(t, "P5.1", c.name, x)
			continue
		}
		if x.Bytes() != s || c.check == api.OK && !reflect.DeepEqual(x, h) {
			t.Errorf("P5.2: %s: %v, want %v", c.name, x, h)
		}
	}
}

// P5.1: the bytes of headers, field by field; numbers below 0, and a power
// above 2^63 - 1, are those of 0, and all else stands as it is.
func TestBytes(t *testing.T) {
	one, two := ids(2)[0], ids(2)[1]
	a, b := string(one[:]), string(two[:])
	ids256 := ids(256)
	var all []byte
	for _, id := range ids256 {
		all = append(all, id[:]...)
	}
	for _, c := range []struct {
		h    Header
		want string
	}{
		{good(), "\x01\x03\x01\x07\x01\x02tk\x01\x02\x02\x01\x2c\x01\x02" + a + b + "\x01\x01"},
		{Genesis(), "\x00\x00\x00\x00\x01\x02\x00\x00"},
		{Header{}, "\x00\x00\x00\x00\x00\x00\x00"},
		{Header{Height: -1, Miner: math.MinInt, Wins: -15, Power: 1 << 63, Salt: -1}, "\x00\x00\x00\x00\x00\x00\x00"},
		{Header{Power: math.MaxUint64}, "\x00\x00\x00\x00\x00\x00\x00"},
		{Header{Power: 1<<63 + 2}, "\x00\x00\x00\x00\x00\x00\x00"},
		{Header{Power: 1<<63 - 1}, "\x00\x00\x00\x00\x08\x7f\xff\xff\xff\xff\xff\xff\xff\x00\x00"},
		{Header{Height: math.MaxInt, Miner: 64, Ticket: "123456789", Wins: 256, Salt: 1 << 31}, "\x08\x7f\xff\xff\xff\xff\xff\xff\xff\x01\x40\x01\x09123456789\x02\x01\x00\x00\x00\x04\x80\x00\x00\x00"},
		{Header{Parents: []api.ID{two, one, two}}, "\x00\x00\x00\x00\x00\x01\x03" + b + a + b + "\x00"},
		{Header{Parents: ids256}, "\x00\x00\x00\x00\x00\x02\x01\x00" + string(all) + "\x00"},
	} {
		if s := c.h.Bytes(); s != c.want {
			t.Errorf("P5.1: %v: %x, want %x", c.h, s, c.want)
		}
		if id := c.h.ID(); id != api.ID(sha256.Sum256([]byte(c.want))) {
			t.Errorf("P5.1: %v: ID %x", c.h, id)
		}
	}
}

// P5.1: the genesis header, and its name.
func TestGenesis(t *testing.T) {
	if !reflect.DeepEqual(Genesis(), Header{Power: 2}) {
		t.Errorf("P5.1: %v", Genesis())
	}
	if Genesis().Check() != api.ErrArg {
		t.Errorf("P5.1: the genesis: Check %d", Genesis().Check())
	}
	if want := api.ID(sha256.Sum256([]byte("\x00\x00\x00\x00\x01\x02\x00\x00"))); Root() != want || Genesis().ID() != want {
		t.Errorf("P5.1: Root %x, want %x", Root(), want)
	}
}

// P5.1, P5.2: bytes that are no header's, and what is told of them first.
func TestWrongBytes(t *testing.T) {
	one := ids(1)[0]
	const ahead = "\x01\x03\x01\x07\x01\x02tk\x01\x02\x01\x09"
	parent := "\x01\x01" + string(one[:])
	six := "\x01\x06" + strings.Repeat(string(one[:]), 6)
	for _, c := range []struct {
		name, bytes string
		want        api.Errno
	}{
		{"none", "", api.ErrEnd},
		{"bytes left", ahead + parent + "\x00x", api.ErrForm},
		{"a whole header left", ahead + parent + "\x00" + ahead + parent + "\x00", api.ErrForm},
		{"no salt", ahead + parent, api.ErrEnd},
		{"no salt, and parents twice", ahead + "\x01\x02" + string(one[:]) + string(one[:]), api.ErrEnd},
		{"a parent's byte wanting", ahead + parent[:33], api.ErrEnd},
		{"a parent wanting", ahead + "\x01\x02" + string(one[:]) + "\x00", api.ErrEnd},
		{"5 parents, of which no byte is there", ahead + "\x01\x05", api.ErrEnd},
		{"6 parents", ahead + six + "\x00", api.ErrBig},
		{"6 parents, of which no byte is there", ahead + "\x01\x06", api.ErrBig},
		{"height 0, and 6 parents", "\x00" + ahead[2:] + six + "\x00", api.ErrBig},
		{"height 0, and bytes left", "\x00" + ahead[2:] + parent + "\x00x", api.ErrForm},
		{"height 0, and no salt", "\x00" + ahead[2:] + parent, api.ErrEnd},
		{"height 0", "\x00" + ahead[2:] + parent + "\x00", api.ErrArg},
		{"height 3 in two bytes", "\x02\x00\x03" + ahead[2:] + parent + "\x00", api.ErrForm},
		{"height in nine bytes", "\x09" + ahead[2:] + parent + "\x00", api.ErrForm},
		{"height 2^62 + 1, then nothing", "\x08\x40\x00\x00\x00\x00\x00\x00\x01", api.ErrBig},
		{"height 2^62, then nothing", "\x08\x40\x00\x00\x00\x00\x00\x00\x00", api.ErrEnd},
		{"height 2^63", "\x08\x80\x00\x00\x00\x00\x00\x00\x00", api.ErrForm},
		{"ticket of 9 bytes, then nothing", "\x01\x03\x01\x07\x01\x09", api.ErrBig},
		{"ticket of 8 bytes, then 7", "\x01\x03\x01\x07\x01\x081234567", api.ErrEnd},
		{"ticket too long, then a wrong number", "\x01\x03\x01\x07\x01\x09123456789\x09", api.ErrBig},
		{"salt in a wrong form, and height 0", "\x00" + ahead[2:] + parent + "\x01\x00", api.ErrForm},
	} {
		h, e := Parse(c.bytes)
		if e != c.want {
			t.Errorf("P5.2: %s: %d, want %d", c.name, e, c.want)
		}
		zero(t, "P5.2", c.name, h)
	}
}

// P5.2: each beginning of a header's bytes is told to be too short.
func TestTooShort(t *testing.T) {
	s := good().Bytes()
	for i := range len(s) {
		h, e := Parse(s[:i])
		if e != api.ErrEnd {
			t.Errorf("P5.2: the first %d bytes: %d", i, e)
		}
		zero(t, "P5.2", "too short", h)
	}
}

// P5.2: headers of any fields that may be come back as they were, with their
// names.
func TestThereAndBack(t *testing.T) {
	r := rand.New(rand.NewSource(5))
	for range 2000 {
		h := Header{
			Height: 1 + r.Intn(1<<uint(r.Intn(31))),
			Miner:  r.Intn(64),
			Ticket: strings.Repeat(string([]byte{byte(r.Intn(256))}), 1+r.Intn(8)),
			Wins:   1 + r.Intn(15),
			Power:  2 + uint64(r.Int63n(1<<uint(1+r.Intn(61)))),
			Salt:   r.Intn(1 << uint(r.Intn(31))),
		}
		h.Parents = ids(7)[r.Intn(2):][:1+r.Intn(5)]
		x, e := Parse(h.Bytes())
		if e != api.OK || !reflect.DeepEqual(x, h) || x.ID() != h.ID() {
			t.Errorf("P5.2: %v comes back as %v, %d", h, x, e)
		}
	}
}

// P5.2: of bytes that were changed anywhere there is no header, or one whose
// bytes they are, which isn't the other one.
func TestOneHeaderAlone(t *testing.T) {
	h := good()
	s := h.Bytes()
	for i := range len(s) {
		for b := range 256 {
			if byte(b) == s[i] {
				continue
			}
			changed := s[:i] + string([]byte{byte(b)}) + s[i+1:]
			x, e := Parse(changed)
			switch {
			case e != api.OK:
				zero(t, "P5.2", "changed bytes", x)
			case x.Bytes() != changed || x.Check() != api.OK || x.ID() == h.ID():
				t.Errorf("P5.2: byte %d as %02x is read as %v", i, b, x)
			}
		}
	}
}

// joined answers the names one behind the other, as they stand.
func joined(l []api.ID) string {
	var b []byte
	for _, id := range l {
		b = append(b, id[:]...)
	}
	return string(b)
}

// P5.3: a key is its names, in whatever order they come, and however often.
func TestKey(t *testing.T) {
	r := rand.New(rand.NewSource(6))
	for n := range 8 {
		l := ids(n)
		want := joined(l)
		for range 30 {
			mixed := slices.Clone(l)
			for i := range l {
				if r.Intn(2) == 0 {
					mixed = append(mixed, l[i])
				}
			}
			r.Shuffle(len(mixed), func(i, j int) { mixed[i], mixed[j] = mixed[j], mixed[i] })
			if k := Key(mixed...); k != want {
				t.Errorf("P5.3: %x, want %x", k, want)
			}
		}
		back, is := Names(want)
		if may := n >= 1 && n <= 5; is != may || may && !slices.Equal(back, l) || !may && back != nil {
			t.Errorf("P5.3: %d names: %x, %t", n, back, is)
		}
	}
	if k := Key(); k != "" {
		t.Errorf("P5.3: the key of none: %x", k)
	}
	if Key(api.ID{31: 2}, api.ID{31: 1}, api.ID{0x80}, api.ID{0x7f}) != joined([]api.ID{{31: 1}, {31: 2}, {0x7f}, {0x80}}) {
		t.Error("P5.3: names rise by their bytes")
	}
}

// P5.3: what is no key: no names, too many, part of one, and such as don't
// rise.
func TestWrongKeys(t *testing.T) {
	l := ids(6)
	six := joined(l)
	wrong := []string{
		"", "x", six[:31], six[:33], six[:63], six[:65], six[:159], six[:161], six, six + six,
		six[32:64] + six[:32], six[:32] + six[:32], six[:160-32] + six[96:128], six[64:96] + six[:32] + six[96:128],
		joined([]api.ID{{0x80}, {0x7f}}), joined([]api.ID{{31: 2}, {31: 1}}), joined([]api.ID{{}, {}}),
	}
	for n := range 200 {
		if n%32 != 0 {
			wrong = append(wrong, strings.Repeat("a", n))
		}
	}
	for _, s := range wrong {
		if names, is := Names(s); is || names != nil {
			t.Errorf("P5.3: %x: %x, %t", s, names, is)
		}
	}
	for _, s := range []string{six[:32], six[:64], six[:160], six[32:], strings.Repeat("\x00", 32)} {
		if names, is := Names(s); !is || Key(names...) != s {
			t.Errorf("P5.3: %x: %x, %t", s, names, is)
		}
	}
}

// P5.1: what blocks of one tipset have in common: height, power and parents,
// nothing else.
func TestFamily(t *testing.T) {
	h := good()
	want := "\x01\x03\x02\x01\x2c\x01\x40" + joined(h.Parents)
	if f := h.Family(); f != want {
		t.Errorf("P5.1: %x, want %x", f, want)
	}
	for name, set := range map[string]func(h *Header){
		"miner": func(h *Header) { h.Miner++ }, "ticket": func(h *Header) { h.Ticket = "u" }, "wins": func(h *Header) { h.Wins++ },
		"salt": func(h *Header) { h.Salt++ }, "order": func(h *Header) { slices.Reverse(h.Parents) },
		"twice": func(h *Header) { h.Parents = append(h.Parents, h.Parents...) },
	} {
		x := good()
		set(&x)
		if x.Family() != want {
			t.Errorf("P5.1: another %s is another family", name)
		}
	}
	for name, set := range map[string]func(h *Header){
		"height": func(h *Header) { h.Height++ }, "power": func(h *Header) { h.Power++ },
		"parents": func(h *Header) { h.Parents = ids(1) }, "more parents": func(h *Header) { h.Parents = ids(3) },
	} {
		x := good()
		set(&x)
		if x.Family() == want {
			t.Errorf("P5.1: another %s is the same family", name)
		}
	}
}

// P5.1: the family of any header, also of one that may not be.
func TestFamilyOfAny(t *testing.T) {
	for _, c := range []struct {
		h    Header
		want string
	}{
		{Genesis(), "\x00\x01\x02\x00"},
		{Header{Height: -1, Power: 1 << 63}, "\x00\x00\x00"},
		{Header{Height: math.MinInt, Power: math.MaxUint64}, "\x00\x00\x00"},
		{Header{Power: 1<<63 - 1}, "\x00\x08\x7f\xff\xff\xff\xff\xff\xff\xff\x00"},
		{Header{Height: 1 << 40, Parents: ids(8)}, "\x06\x01\x00\x00\x00\x00\x00\x00\x02\x01\x00" + joined(ids(8))},
	} {
		if f := c.h.Family(); f != c.want {
			t.Errorf("P5.1: %v: %x, want %x", c.h, f, c.want)
		}
	}
}

// P5.1: no call changes what it is handed, or the spare room behind it.
func TestNothingChanged(t *testing.T) {
	room := ids(6)
	slices.Reverse(room)
	before := slices.Clone(room)
	l := room[:3]
	h := good()
	h.Parents = l
	_ = Key(l...)
	_ = h.Family() + h.Bytes()
	h.ID()
	h.Check()
	if !slices.Equal(room, before) {
		t.Errorf("P5.1: %x, want %x", room, before)
	}
}

// inside tells whether a text's bytes stand among those of another one.
func inside(part, whole string) bool {
	at, from := uintptr(unsafe.Pointer(unsafe.StringData(part))), uintptr(unsafe.Pointer(unsafe.StringData(whole)))
	return at >= from && at < from+uintptr(len(whole))
}

// P5.1: what is answered shares nothing with what was asked, or with another
// answer.
func TestNothingShared(t *testing.T) {
	s := good().Bytes()
	a, _ := Parse(s)
	b, _ := Parse(s)
	if inside(a.Ticket, s) || inside(a.Ticket, b.Ticket) {
		t.Error("P5.2: Parse's ticket stands in the bytes")
	}
	a.Parents[0] = api.ID{9}
	if c, e := Parse(s); e != api.OK || b.Parents[0] == a.Parents[0] || c.Parents[0] == a.Parents[0] {
		t.Error("P5.2: two answers of Parse share parents")
	}
	key := Key(good().Parents...)
	x, _ := Names(key)
	y, _ := Names(key)
	x[0] = api.ID{9}
	if z, is := Names(key); !is || y[0] == x[0] || z[0] == x[0] {
		t.Error("P5.3: two answers of Names share names")
	}
}
