package snap

import (
	"crypto/sha256"
	"math/rand"
	"reflect"
	"slices"
	"strings"
	"testing"
	"unsafe"

	"coxswain/api"
	"coxswain/cert"
	"coxswain/codec"
	"coxswain/command"
	"coxswain/header"
	"coxswain/state"
	"coxswain/table"
)

// config answers one of room enough, where miner 0 signs alone.
func config() state.Config {
	return state.Config{Orphans: 64, Holds: 64, Waits: 64, Cache: 9, Table: []table.Entry{{Miner: 0, Power: 1}}}
}

// key answers the key of headers (of none: that of the genesis).
func key(l ...header.Header) string {
	var names []api.ID
	for _, h := range l {
		names = append(names, h.ID())
	}
	if len(l) == 0 {
		names = append(names, header.Root())
	}
	return header.Key(names...)
}

// over answers a header over a tipset of these (none: the genesis).
func over(height, miner, wins int, ticket string, parents ...header.Header) header.Header {
	h := header.Header{Height: height, Miner: miner, Ticket: ticket, Wins: wins, Power: 2}
	h.Parents, _ = header.Names(key(parents...))
	return h
}

// link answers a certificate that miner 0 signs.
func link(instance int, base, final string) cert.Cert {
	return cert.Cert{Instance: instance, Base: base, Final: final, Signers: []int{0}}
}

func block(h header.Header) command.Command { return command.Block{Bytes: h.Bytes(), Right: true} }

func told(c cert.Cert) command.Command { return command.Cert{Bytes: c.Bytes(), Right: true} }

// apply has a state do what it is not to refuse.
func apply(t *testing.T, s *state.State, l ...command.Command) {
	t.Helper()
	for _, c := range l {
		if r := s.Apply(c); r.Code != api.OK {
			t.Fatalf("%s: %v", command.Name(c), r)
		}
	}
}

// rich answers a state that has two of each list, and a mark.
func rich(t *testing.T) *state.State {
	t.Helper()
	s, _ := state.New(config())
	a := over(1, 0, 3, "a")
	b := over(2, 1, 3, "b", a)
	lost := over(1, 9, 1, "?")
	apply(t, s, command.Clock{Epoch: 300}, block(a), block(b),
		block(over(9, 0, 1, "o", lost)), block(over(8, 0, 1, "p", lost)),
		block(over(400, 0, 1, "h")), block(over(500, 0, 1, "i", b)),
		told(link(0, key(), key())), told(link(1, key(), key(a))),
		told(link(3, key(a), key(b))), told(link(4, key(a), key(lost))),
		command.Mark{Key: key(b)})
	return s
}

// load answers the state of bytes that are one's.
func load(t *testing.T, text string) *state.State {
	t.Helper()
	s, e := Load(config(), text)
	if e != api.OK || s == nil {
		t.Fatalf("P22.2: Load: %d", e)
	}
	return s
}

// refused tells of bytes that come to a state, or to another error.
func refused(t *testing.T, what, text string, want api.Errno) {
	t.Helper()
	if p, e := Parse(text); e != want || !reflect.DeepEqual(p, state.Parts{}) {
		t.Errorf("P22.1: Parse of %s: %v, %d, wanted %d", what, p, e, want)
	}
	if s, e := Load(config(), text); e != want || s != nil {
		t.Errorf("P22.1: Load of %s: %v, %d, wanted %d", what, s, e, want)
	}
}

// list answers the bytes of a list of texts.
func list(l ...string) string {
	var o codec.Out
	o.Num(len(l))
	for _, s := range l {
		o.Text(s)
	}
	return o.Bytes()
}

// head answers the bytes of a clock at 0, no mark, and the genesis as the head.
func head() string { return "\x00\x00\x01\x20" + key() }

// P22.1: the bytes of a new state, and of the parts of one that has all, field
// by field.
func TestBytes(t *testing.T) {
	s, _ := state.New(config())
	root := header.Root()
	if x := Save(s); x != "\x00\x00\x01\x20"+string(root[:])+"\x00\x00\x00\x00\x00" {
		t.Errorf("P22.1: a new state: %x", x)
	}
	if x := Bytes(state.Parts{}); x != strings.Repeat("\x00", 8) {
		t.Errorf("P22.1: no parts: %x", x)
	}
	if x := Bytes(state.Parts{Clock: -7, Blocks: []header.Header{}}); x != strings.Repeat("\x00", 8) {
		t.Errorf("P22.1: a clock below 0: %x", x)
	}
	full := rich(t)
	p := full.Parts()
	var o codec.Out
	o.Num(300).Text(p.Mark).Text(p.Head)
	for _, l := range [][]header.Header{p.Blocks, p.Orphans, p.Holds} {
		o.Num(2)
		for _, h := range l {
			o.Text(h.Bytes())
		}
	}
	for _, l := range [][]cert.Cert{p.Certs, p.Waiting} {
		o.Num(2)
		for _, c := range l {
			o.Text(c.Bytes())
		}
	}
	if Bytes(p) != o.Bytes() || Save(full) != o.Bytes() {
		t.Errorf("P22.1: %x, wanted %x", Save(full), o.Bytes())
	}
}

// P22.1: bytes there and back, also of parts that are no state's: Parse asks of
// each header and certificate alone whether it may be.
func TestParse(t *testing.T) {
	full := rich(t).Parts()
	other := full
	other.Blocks, other.Holds = full.Holds, full.Blocks
	slices.Reverse(other.Orphans)
	other.Certs = append(slices.Clone(other.Certs), full.Waiting...)
	for n, p := range []state.Parts{
		{}, full, other, {Clock: 1 << 30}, {Clock: 255, Mark: "m", Head: strings.Repeat("h", 160)}, {Mark: strings.Repeat("m", 160)},
		{Blocks: full.Blocks}, {Orphans: full.Blocks}, {Holds: full.Blocks}, {Certs: full.Certs}, {Waiting: full.Certs},
		{Holds: []header.Header{full.Blocks[0], full.Blocks[0]}},
	} {
		if x, e := Parse(Bytes(p)); e != api.OK || !reflect.DeepEqual(x, p) {
			t.Errorf("P22.1: parts %d: %v, %d, wanted %v", n, x, e, p)
		}
	}
}

// P22.1: each error of Parse, in the order of the bytes.
func TestParseErrors(t *testing.T) {
	a := over(1, 0, 3, "a").Bytes()
	c := link(0, key(), key()).Bytes()
	none, long := list(), strings.Repeat("x", 161)
	wrong := header.Genesis().Bytes() // ErrArg
	for what, x := range map[string]struct {
		text string
		want api.Errno
	}{
		"nothing":                             {"", api.ErrEnd},
		"a clock of nine bytes":               {"\x09", api.ErrForm},
		"a clock of a byte 0":                 {"\x01\x00", api.ErrForm},
		"a clock too high":                    {"\x04\x40\x00\x00\x01" + "\x00\x01\x20" + key() + strings.Repeat(none, 5), api.ErrBig},
		"a mark too long":                     {"\x00" + list(long)[2:], api.ErrBig},
		"a mark too long, and not there":      {"\x00\x01\xa1", api.ErrBig},
		"a mark not there":                    {"\x00\x01\xa0", api.ErrEnd},
		"a head too long":                     {"\x00\x00\x01\xa1" + long, api.ErrBig},
		"a head not there":                    {"\x00\x00\x01\xa0", api.ErrEnd},
		"a list not there":                    {head(), api.ErrEnd},
		"a list of 65537":                     {head() + "\x03\x01\x00\x01" + strings.Repeat("\x00", 65600), api.ErrBig},
		"a list of 65537 that isn't there":    {head() + "\x03\x01\x00\x01", api.ErrBig},
		"a list of 65536 that isn't there":    {head() + "\x03\x01\x00\x00" + strings.Repeat("\x09", 65535), api.ErrEnd},
		"a list of 65536 of no numbers":       {head() + "\x03\x01\x00\x00" + strings.Repeat("\x09", 65536), api.ErrForm},
		"a list of more than there are bytes": {head() + "\x01\x05" + strings.Repeat("\x09", 4), api.ErrEnd},
		"a text too long":                     {head() + list(strings.Repeat("\xff", 4097)), api.ErrBig},
		"a text of 4096":                      {head() + list(strings.Repeat("\xff", 4096)), api.ErrForm}, // the header's own error
		"a text not there":                    {head() + "\x01\x01\x01\x41", api.ErrEnd},
		"an empty text":                       {head() + list("") + strings.Repeat(none, 4), api.ErrEnd},
		"a header that may not be":            {head() + list(wrong) + strings.Repeat(none, 4), api.ErrArg},
		"a header with bytes left":            {head() + list(a+"\x00") + strings.Repeat(none, 4), api.ErrForm},
		"a header cut short":                  {head() + list(a[:len(a)-1]) + strings.Repeat(none, 4), api.ErrEnd},
		"a second header that may not be":     {head() + list(a, wrong) + strings.Repeat(none, 4), api.ErrArg},
		"a wrong header, and bytes left":      {head() + list(wrong) + strings.Repeat(none, 5), api.ErrArg},
		"a wrong header ahead of a wrong one": {head() + list(wrong, a+"\x00"), api.ErrArg},
		"a wrong header, and nothing more":    {head() + "\x01\x02" + list(wrong)[2:], api.ErrArg},
		"a wrong orphan":                      {head() + none + list(wrong) + "\x09", api.ErrArg},
		"a wrong held one":                    {head() + none + none + list(a, wrong) + "\x09", api.ErrArg},
		"a wrong certificate":                 {head() + none + none + none + list(c, c+"\x00") + "\x01", api.ErrForm},
		"a certificate that may not be":       {head() + none + none + none + list(cert.Cert{}.Bytes()) + "\x09", api.ErrArg},
		"a header as a certificate":           {head() + none + none + none + list(a), api.ErrForm},
		"a wrong certificate that waits":      {head() + strings.Repeat(none, 4) + list(c[:len(c)-1]) + "\x09", api.ErrEnd},
		"bytes left":                          {head() + strings.Repeat(none, 6), api.ErrForm},
		"bytes left of no number":             {head() + strings.Repeat(none, 5) + "\x09", api.ErrForm},
	} {
		refused(t, what, x.text, x.want)
	}
}

// P22.1: every beginning of a state's bytes wants more; behind them nothing may
// stand.
func TestCut(t *testing.T) {
	text := Save(rich(t))
	for n := range len(text) {
		refused(t, "a beginning", text[:n], api.ErrEnd)
	}
	for n := range 256 {
		refused(t, "bytes left", text+string([]byte{byte(n)}), api.ErrForm)
	}
}

// P22.1: a list of 65536 is read, one more is told.
func TestLongLists(t *testing.T) {
	h := over(1, 0, 3, "a")
	p := state.Parts{Holds: slices.Repeat([]header.Header{h}, 65536)}
	if x, e := Parse(Bytes(p)); e != api.OK || len(x.Holds) != 65536 {
		t.Errorf("P22.1: 65536: %d, %d", len(x.Holds), e)
	}
	p.Holds = append(p.Holds, h)
	refused(t, "65537", Bytes(p), api.ErrBig)
}

// P22.1: Load's errors in their order, each with a nil State: Parse's is told
// ahead of the config's, that ahead of what the parts are.
func TestLoad(t *testing.T) {
	good := Save(rich(t))
	wrong, many := config(), config()
	wrong.Delay = 6
	many.Table = make([]table.Entry, 65)
	p := rich(t).Parts()
	p.Head = key()
	bad := Bytes(p)
	few := config()
	few.Orphans = 1
	for n, x := range []struct {
		c    state.Config
		text string
		want api.Errno
	}{
		{config(), good, api.OK}, {config(), good + "\x00", api.ErrForm}, {config(), "", api.ErrEnd}, {config(), bad, api.ErrBad},
		{wrong, good, api.ErrArg}, {many, good, api.ErrBig}, {wrong, bad, api.ErrArg}, {many, bad, api.ErrBig},
		{wrong, good + "\x00", api.ErrForm}, {wrong, "", api.ErrEnd}, {many, good[:9], api.ErrEnd}, {few, good, api.ErrBad},
	} {
		s, e := Load(x.c, x.text)
		if e != x.want || (s == nil) != (e != api.OK) {
			t.Errorf("P22.1: %d: %v, %d, wanted %d", n, s, e, x.want)
		}
	}
}

// P22.2: lists of another order come to the same state, whose bytes these
// aren't.
func TestLoadOrder(t *testing.T) {
	s := rich(t)
	x := over(3, 7, 1, "x", over(2, 1, 3, "b", over(1, 0, 3, "a")))
	y := over(3, 8, 1, "y", over(2, 1, 3, "b", over(1, 0, 3, "a")))
	apply(t, s, block(x), block(y))
	text := Save(s)
	load(t, text)
	for what, change := range map[string]func(p *state.Parts){
		"blocks":              func(p *state.Parts) { n := len(p.Blocks); slices.Reverse(p.Blocks[n-2:]) },
		"orphans":             func(p *state.Parts) { slices.Reverse(p.Orphans) },
		"held ones":           func(p *state.Parts) { slices.Reverse(p.Holds) },
		"certificates":        func(p *state.Parts) { slices.Reverse(p.Certs) },
		"certificates behind": func(p *state.Parts) { slices.Reverse(p.Waiting) },
	} {
		p := s.Parts()
		change(&p)
		other := Bytes(p)
		if back, e := Parse(other); other == text || e != api.OK || !reflect.DeepEqual(back, p) {
			t.Errorf("P22.2: %s: Parse: %d", what, e)
		}
		if x, e := Load(config(), other); e != api.ErrBad || x != nil {
			t.Errorf("P22.2: %s: %v, %d", what, x, e)
		}
		restored, e := state.Restore(config(), p)
		if what != "certificates" && (e != api.OK || Save(restored) != text) {
			t.Errorf("P22.2: %s: Restore: %d", what, e)
		}
	}
}

// P22.2: Same and Digest, of states that are alike, however they came to be,
// and of such that aren't.
func TestSame(t *testing.T) {
	s := rich(t)
	clone, loaded, again := s.Clone(), load(t, Save(s)), rich(t)
	for _, x := range []*state.State{s, clone, loaded, again} {
		if !Same(s, x) || !Same(x, s) || Digest(x) != api.ID(sha256.Sum256([]byte(Save(s)))) {
			t.Errorf("P22.2: alike: %v", x.Parts())
		}
	}
	fresh, _ := state.New(config())
	other, _ := state.New(state.Config{Delay: 5, Table: []table.Entry{{Miner: 9, Power: 1}}})
	if !Same(fresh, other) || Digest(fresh) != Digest(other) { // a config has no bytes there
		t.Errorf("P22.2: new states")
	}
	for _, c := range []command.Command{
		command.Clock{Epoch: 301}, command.Unmark{}, command.Mark{Key: key()}, block(over(1, 8, 1, "z")), block(over(302, 8, 1, "z")),
		block(over(3, 8, 1, "z", over(1, 9, 1, "?"))), told(link(2, key(over(1, 0, 3, "a")), key(over(1, 0, 3, "a")))), told(link(60, key(), key())),
	} {
		x := s.Clone()
		apply(t, x, c)
		if Same(s, x) || Same(x, s) || Digest(s) == Digest(x) || Digest(x) != api.ID(sha256.Sum256([]byte(Save(x)))) {
			t.Errorf("P22.2: %s: alike", command.Name(c))
		}
	}
}

// some answers any command over these headers, and keys.
func some(r *rand.Rand, l []header.Header, next int, final string) command.Command {
	h := l[r.Intn(len(l))]
	switch n := r.Intn(20); {
	case n < 12:
		return block(h)
	case n < 15:
		return told(link(next+r.Intn(3), final, key(h)))
	case n < 17:
		return command.Clock{Epoch: r.Intn(12)}
	case n < 19:
		return command.Mark{Key: key(h)}
	}
	return command.Unmark{}
}

// headers answers some, each over the genesis or over some ahead of it.
func headers(r *rand.Rand) []header.Header {
	l := []header.Header{over(1, 0, 1, "t")}
	for range 5 + r.Intn(15) {
		p := l[r.Intn(len(l))]
		if r.Intn(4) == 0 {
			l = append(l, over(1+r.Intn(3), r.Intn(5), 1+r.Intn(3), "t"))
			continue
		}
		l = append(l, over(p.Height+r.Intn(6)/5+1, r.Intn(5), 1+r.Intn(3), string(rune('a'+r.Intn(3))), p))
	}
	return l
}

// P22.2: Load of Save is a state of the same bytes, which goes on alike,
// whatever came ahead.
func TestGoesOn(t *testing.T) {
	for seed := range int64(150) {
		r := rand.New(rand.NewSource(seed))
		l := headers(r)
		c := config()
		c.Delay, c.Orphans, c.Holds, c.Waits, c.Cache = r.Intn(3), r.Intn(4), r.Intn(4), r.Intn(4), r.Intn(9)
		s, _ := state.New(c)
		for n := range 60 {
			if n%10 == 9 {
				text := Save(s)
				x, e := Load(c, text)
				if e != api.OK || Save(x) != text || !Same(s, x) || !reflect.DeepEqual(x.Config(), c) {
					t.Fatalf("P22.2: seed %d, %d: %d", seed, n, e)
				}
				other := s.Clone()
				for range 20 {
					y := some(r, l, s.Chain().Next(), s.Chain().Final())
					if got, want := x.Apply(y), other.Apply(y); got != want || !Same(x, other) || !reflect.DeepEqual(x.Filter().Pairs(), other.Filter().Pairs()) {
						t.Fatalf("P22.2: seed %d, %d: %s: %v, wanted %v", seed, n, command.Name(y), got, want)
					}
				}
			}
			s.Apply(some(r, l, s.Chain().Next(), s.Chain().Final()))
		}
	}
}

// P22.1, P22.2, P7: of any bytes, and of a state's bytes that are changed
// somewhere, there is a state whose bytes they are, or an error.
func TestAnyBytes(t *testing.T) {
	r := rand.New(rand.NewSource(1))
	text := Save(rich(t))
	look := func(x string) {
		p, e := Parse(x)
		if e != api.OK && !reflect.DeepEqual(p, state.Parts{}) || e == api.OK && Bytes(p) != x {
			t.Fatalf("P22.1: %x: %d", x, e)
		}
		s, wrong := Load(config(), x)
		if (s == nil) != (wrong != api.OK) || s != nil && Save(s) != x || e != api.OK && wrong != e {
			t.Fatalf("P22.2: %x: %d, %d", x, e, wrong)
		}
	}
	for range 8000 {
		b := []byte(text)
		for range 1 + r.Intn(2) {
			switch at := r.Intn(len(b)); r.Intn(3) {
			case 0:
				b[at] = byte(r.Intn(256))
			case 1:
				b[at] ^= 1 << r.Intn(8)
			default:
				b = slices.Delete(b, at, min(len(b), at+1+r.Intn(3)))
			}
		}
		look(string(b))
	}
	for range 20000 {
		b := []byte(head() + strings.Repeat("\x00", 5))
		for range r.Intn(4) {
			b[r.Intn(len(b))] = byte(r.Intn(4))
		}
		look(string(b[r.Intn(2):]))
		b = make([]byte, r.Intn(12))
		for i := range b {
			b[i] = byte(r.Intn(3))
		}
		look(string(b))
	}
}

// P22.1: nothing that is answered shares memory with the bytes that were handed
// in, and no bytes are changed.
func TestMemory(t *testing.T) {
	text := Save(rich(t))
	room := []byte(text)
	lent := unsafe.String(&room[0], len(room))
	p, e := Parse(lent)
	s, wrong := Load(config(), lent)
	if e != api.OK || wrong != api.OK || string(room) != text {
		t.Fatalf("P22.2: %d, %d", e, wrong)
	}
	for i := range room {
		room[i] = 0xff
	}
	if Bytes(p) != text || Save(s) != text {
		t.Errorf("rule 5: what is answered shares memory")
	}
	p.Blocks[0].Parents[0], p.Certs[0].Signers[0], p.Waiting[0].Final = api.ID{}, 9, "x"
	if Save(s) != text {
		t.Errorf("rule 5: a state shares memory")
	}
	x := s.Parts()
	first := Bytes(x)
	room = []byte(first)
	Bytes(x)
	if Bytes(x) != string(room) || !reflect.DeepEqual(x, s.Parts()) {
		t.Errorf("rule 5: Bytes changes what it is handed")
	}
}
