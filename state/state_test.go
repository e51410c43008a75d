package state

import (
	"math"
	"math/rand"
	"reflect"
	"slices"
	"testing"

	"coxswain/api"
	"coxswain/cert"
	"coxswain/command"
	"coxswain/header"
	"coxswain/table"
	"coxswain/tipset"
)

// entries answers a table's entries, each of power 1, of so many miners.
func entries(n int) []table.Entry {
	var l []table.Entry
	for i := range n {
		l = append(l, table.Entry{Miner: i, Power: 1})
	}
	return l
}

// roomy answers a config of room enough: one miner signs alone.
func roomy() Config { return Config{Orphans: 64, Holds: 64, Waits: 64, Cache: 9, Table: entries(1)} }

// of answers a new state.
func of(t *testing.T, c Config) *State {
	t.Helper()
	s, e := New(c)
	if e != api.OK || s == nil {
		t.Fatalf("New: %d", e)
	}
	return s
}

// at answers a new state, of room enough, whose clock is there.
func at(t *testing.T, clock int) *State {
	t.Helper()
	s := of(t, roomy())
	does(t, s, command.Clock{Epoch: clock}, Result{Status: Set})
	return s
}

// over answers a header over a tipset of these (none: the genesis).
func over(height, miner, wins int, ticket string, parents ...header.Header) header.Header {
	h := header.Header{Height: height, Miner: miner, Ticket: ticket, Wins: wins, Power: 2}
	h.Parents, _ = header.Names(key(parents...))
	return h
}

// key answers the key of headers (of none: that of the genesis).
func key(l ...header.Header) string {
	var names []api.ID
	for _, h := range l {
		names = append(names, h.ID())
	}
	if len(l) == 0 {
		names = append(names, header.Root())
	}
	return header.Key(names...)
}

// block answers the command that tells of a header.
func block(h header.Header) command.Block { return command.Block{Bytes: h.Bytes(), Right: true} }

// link answers a certificate that miner 0 signs.
func link(instance int, base, final string) cert.Cert {
	return cert.Cert{Instance: instance, Base: base, Final: final, Signers: []int{0}}
}

// told answers the command that tells of a certificate.
func told(c cert.Cert) command.Cert { return command.Cert{Bytes: c.Bytes(), Right: true} }

// does has a state do a command that is to end so.
func does(t *testing.T, s *State, c command.Command, want Result) {
	t.Helper()
	if r := s.Apply(c); r != want {
		t.Fatalf("P21.1: %s %v: %v, wanted %v", command.Name(c), c, r, want)
	}
}

// puts has a state be told of headers that are to come in.
func puts(t *testing.T, s *State, l ...header.Header) {
	t.Helper()
	for _, h := range l {
		if r := s.Apply(block(h)); r.Code != api.OK || r.Status != In {
			t.Fatalf("P21.1: header %v: %v", h, r)
		}
	}
}

// leads tells of a head that is another one.
func leads(t *testing.T, s *State, want string) {
	t.Helper()
	if s.Head().Key() != want {
		t.Errorf("P21.2: the head is %x at %d, wanted %x", s.Head().Key(), s.Head().Height(), want)
	}
}

// same tells whether parts are alike, where an empty list is none.
func same(a, b Parts) bool {
	for _, p := range []*Parts{&a, &b} {
		for _, l := range []*[]header.Header{&p.Blocks, &p.Orphans, &p.Holds} {
			if len(*l) == 0 {
				*l = nil
			}
		}
		for _, l := range []*[]cert.Cert{&p.Certs, &p.Waiting} {
			if len(*l) == 0 {
				*l = nil
			}
		}
	}
	return reflect.DeepEqual(a, b)
}

// refuses has a state be told what it is to refuse, with nothing changed.
func refuses(t *testing.T, s *State, c command.Command, want api.Errno) {
	t.Helper()
	parts, pairs, next := s.Parts(), s.Filter().Pairs(), s.Chain().Table()
	if r := s.Apply(c); r != (Result{Code: want}) {
		t.Errorf("P21.4: %s %v: %v, wanted %d", command.Name(c), c, r, want)
	}
	if !same(parts, s.Parts()) || !slices.Equal(pairs, s.Filter().Pairs()) || next != s.Chain().Table() {
		t.Errorf("P21.4: %s %v changes something", command.Name(c), c)
	}
}

// P21.1: each bound of a config, and just beyond it, and what is told first.
func TestConfig(t *testing.T) {
	long := entries(64)
	tooLong := append(slices.Clone(long), table.Entry{Miner: 64, Power: 1})
	for n, x := range []struct {
		c    Config
		want api.Errno
	}{
		{Config{Table: entries(1)}, api.OK}, {roomy(), api.OK}, {Config{Table: long}, api.OK},
		{Config{Delay: 5, Table: long}, api.OK}, {Config{Delay: 6, Table: long}, api.ErrArg}, {Config{Delay: -1, Table: long}, api.ErrArg},
		{Config{Orphans: 64, Table: long}, api.OK}, {Config{Orphans: 65, Table: long}, api.ErrArg}, {Config{Orphans: -1, Table: long}, api.ErrArg},
		{Config{Holds: 64, Table: long}, api.OK}, {Config{Holds: 65, Table: long}, api.ErrArg}, {Config{Holds: -1, Table: long}, api.ErrArg},
		{Config{Waits: 64, Table: long}, api.OK}, {Config{Waits: 65, Table: long}, api.ErrArg}, {Config{Waits: -1, Table: long}, api.ErrArg},
		{Config{Cache: -1, Table: long}, api.OK}, {Config{Cache: math.MaxInt, Table: long}, api.OK}, {Config{Cache: math.MinInt, Table: long}, api.OK},
		{Config{Delay: math.MinInt, Table: long}, api.ErrArg}, {Config{Orphans: math.MaxInt, Table: long}, api.ErrArg},
		{Config{}, api.ErrArg}, {Config{Table: []table.Entry{}}, api.ErrArg}, {Config{Table: tooLong}, api.ErrBig},
		{Config{Table: []table.Entry{{Miner: 1, Power: 1}, {Miner: 0, Power: 1}}}, api.ErrArg},
		{Config{Table: []table.Entry{{Miner: 1, Power: 0}}}, api.ErrArg}, {Config{Table: []table.Entry{{Miner: 1, Power: 1 << 41}}}, api.ErrArg},
		{Config{Delay: 6, Table: tooLong}, api.ErrArg}, {Config{Orphans: 65, Table: tooLong}, api.ErrArg}, // what isn't the table is told ahead of it
		{Config{Holds: -1, Table: tooLong}, api.ErrArg}, {Config{Waits: 65, Table: tooLong}, api.ErrArg},
	} {
		if e := x.c.Check(); e != x.want {
			t.Errorf("P21.1: config %d: %d, wanted %d", n, e, x.want)
		}
		s, e := New(x.c)
		if e != x.want || (s == nil) != (e != api.OK) {
			t.Errorf("P21.1: New %d: %v, %d, wanted %d", n, s, e, x.want)
		}
		if r, e := Restore(x.c, Parts{Head: key()}); e != x.want || (r == nil) != (e != api.OK) {
			t.Errorf("P21.1: Restore %d: %d, wanted %d", n, e, x.want)
		}
	}
}

// P21.1: all of a new state.
func TestNew(t *testing.T) {
	c := Config{Delay: 2, Orphans: 3, Holds: 4, Waits: 5, Cache: -6, Table: entries(3)}
	s := of(t, c)
	leads(t, s, key())
	if s.Final().Key() != key() || !s.Marked().Zero() || s.Clock() != 0 || s.Dag().Len() != 1 || !s.Dag().Has(header.Root()) {
		t.Errorf("P21.1: a new state: %v", s.Parts())
	}
	if s.Orphans() != nil || s.Holds() != nil || !reflect.DeepEqual(s.Parts(), Parts{Head: key()}) || !reflect.DeepEqual(s.Config(), c) {
		t.Errorf("P21.1: a new state: %v, %v", s.Parts(), s.Config())
	}
	other := tipset.Block{Header: header.Header{Height: 0, Miner: 0}}
	if s.Filter().Pairs() != nil || !s.Filter().Banned(other) || s.Filter().Banned(tipset.Make(header.Genesis())) {
		t.Errorf("P21.1: the filter of a new state knows other blocks than the genesis")
	}
	first, _ := table.New(c.Table...)
	if s.Chain().Next() != 0 || s.Chain().Final() != key() || s.Chain().Table() != first || !s.Paths().Weight(s.Head()).Zero() {
		t.Errorf("P21.1: the certificates of a new state")
	}
	if In != 1 || Orphan != 2 || Held != 3 || Gone != 4 || Accepted != 5 || Waits != 6 || Set != 7 {
		t.Errorf("P21.1: the statuses")
	}
}

// odd is no command, though it has a Kind; where it is asked, it panics.
type odd struct{}

func (odd) Kind() int { panic("asked") }

// P21.1, P7: what is no command, or one that may not be, is told ahead of all
// else.
func TestNoCommand(t *testing.T) {
	s := at(t, 5)
	long := string(make([]byte, 4097))
	for _, x := range []struct {
		c    command.Command
		want api.Errno
	}{
		{nil, api.ErrKind}, {odd{}, api.ErrKind}, {&command.Clock{Epoch: 9}, api.ErrKind}, {(*command.Block)(nil), api.ErrKind}, {&command.Unmark{}, api.ErrKind},
		{command.Block{Bytes: long}, api.ErrBig}, {command.Cert{Bytes: long}, api.ErrBig}, {command.Mark{Key: long}, api.ErrBig},
		{command.Clock{Epoch: -1}, api.ErrArg}, {command.Clock{Epoch: 1<<30 + 1}, api.ErrArg}, {command.Clock{Epoch: math.MaxInt}, api.ErrArg},
		{command.Mark{}, api.ErrArg}, {command.Mark{Key: long[:31]}, api.ErrArg}, {command.Mark{Key: long[:64]}, api.ErrArg}, {command.Mark{Key: long[:192]}, api.ErrArg},
	} {
		if r := s.Apply(x.c); r != (Result{Code: x.want}) {
			t.Errorf("P21.1: %T: %v, wanted %d", x.c, r, x.want)
		}
	}
	does(t, s, command.Clock{Epoch: 1 << 30}, Result{Status: Set})
}

// P21.1, P21.4: a block's errors, in their order, and how it ends at, above and
// below the clock.
func TestBlock(t *testing.T) {
	s := at(t, 5)
	a := over(3, 0, 1, "a")
	held, orphan := over(6, 0, 1, "h"), over(5, 1, 1, "o", over(1, 9, 1, "?"))
	does(t, s, block(a), Result{Status: In, Moved: true})
	does(t, s, block(held), Result{Status: Held})
	does(t, s, block(orphan), Result{Status: Orphan})
	for _, h := range []header.Header{a, held, orphan} {
		refuses(t, s, block(h), api.ErrHave)
		refuses(t, s, command.Block{Bytes: h.Bytes()}, api.ErrVerdict) // ahead of ErrHave
		refuses(t, s, command.Block{Bytes: h.Bytes() + "\x00"}, api.ErrForm)
		refuses(t, s, command.Block{Bytes: h.Bytes()[:len(h.Bytes())-1]}, api.ErrEnd)
	}
	refuses(t, s, command.Block{}, api.ErrEnd) // ahead of ErrVerdict
	refuses(t, s, command.Block{Bytes: header.Genesis().Bytes(), Right: true}, api.ErrArg)
	low := over(3, 1, 1, "l", a) // at its parents' height
	refuses(t, s, block(low), api.ErrHeight)
	refuses(t, s, command.Block{Bytes: low.Bytes()}, api.ErrVerdict)
	apart := over(4, 1, 1, "p") // no tipset with a
	puts(t, s, apart)
	refuses(t, s, block(over(5, 3, 1, "n", a, apart)), api.ErrParents)
	does(t, s, block(over(6, 3, 1, "n", a, apart)), Result{Status: Held}) // a held one's parents aren't looked at
	does(t, s, block(over(5, 4, 9, "c")), Result{Status: In, Moved: true})
	does(t, s, block(over(7, 4, 9, "c")), Result{Status: Held})
	if s.Dag().Len() != 4 || len(s.Holds()) != 3 || len(s.Orphans()) != 1 || s.Clock() != 5 {
		t.Errorf("P21.1: %v", s.Parts())
	}
}

// P21.1: an In of each: what goes for want of room, and when it is the one that
// came.
func TestRoom(t *testing.T) {
	c := roomy()
	c.Orphans, c.Holds, c.Waits = 1, 1, 1
	lost := over(1, 9, 1, "?") // never comes
	s := of(t, c)
	does(t, s, command.Clock{Epoch: 10}, Result{Status: Set})
	low, middle, high := over(5, 0, 1, "a", lost), over(6, 0, 1, "a", lost), over(7, 0, 1, "a", lost)
	does(t, s, block(middle), Result{Status: Orphan})
	does(t, s, block(high), Result{Status: Gone})
	does(t, s, block(high), Result{Status: Gone}) // it is gone: no ErrHave
	does(t, s, block(low), Result{Status: Orphan})
	does(t, s, block(middle), Result{Status: Gone})
	if l := s.Orphans(); len(l) != 1 || l[0].ID() != low.ID() {
		t.Errorf("P21.1: orphans %v", l)
	}
	low, middle, high = over(11, 0, 1, "a"), over(12, 0, 1, "a"), over(13, 0, 1, "a")
	does(t, s, block(middle), Result{Status: Held})
	does(t, s, block(high), Result{Status: Gone})
	does(t, s, block(low), Result{Status: Held})
	does(t, s, block(middle), Result{Status: Gone})
	if l := s.Holds(); len(l) != 1 || l[0].ID() != low.ID() {
		t.Errorf("P21.1: held ones %v", l)
	}
	early, later, late := link(1, key(), key(lost)), link(2, key(), key(lost)), link(3, key(), key(lost))
	does(t, s, told(later), Result{Status: Waits})
	does(t, s, told(late), Result{Status: Gone})
	does(t, s, told(early), Result{Status: Waits})
	does(t, s, told(later), Result{Status: Gone})
	if l := s.Chain().Waiting(); len(l) != 1 || l[0].ID() != early.ID() {
		t.Errorf("P21.1: waiting ones %v", l)
	}
	none := of(t, Config{Table: entries(1)})
	does(t, none, block(low), Result{Status: Gone})
	does(t, none, told(early), Result{Status: Gone})
	does(t, none, command.Clock{Epoch: 20}, Result{Status: Set})
	does(t, none, block(over(5, 0, 1, "a", lost)), Result{Status: Gone})
	if !reflect.DeepEqual(none.Parts(), Parts{Clock: 20, Head: key()}) {
		t.Errorf("P21.1: of no room: %v", none.Parts())
	}
	does(t, none, block(low), Result{Status: In, Moved: true}) // nothing has to wait
	does(t, none, told(link(0, key(), key(low))), Result{Status: Accepted})
}

// salted answers the header with the least salt of whose name ok tells yes.
func salted(h header.Header, ok func(name string) bool) header.Header {
	for !ok(name(h)) {
		h.Salt++
	}
	return h
}

// P21.1: a clock has to go on; held headers that aren't above it enter, by
// their heights, so that parents are ahead of what stands on them.
func TestClock(t *testing.T) {
	c := roomy()
	c.Orphans = 0
	s := of(t, c)
	a := over(3, 0, 1, "a")
	b := over(4, 1, 1, "b", a)
	d := over(6, 2, 1, "d", b)
	low := over(4, 3, 1, "l", b) // of its parents' height: it may not come in
	for _, h := range []header.Header{d, low, b, a} {
		does(t, s, block(h), Result{Status: Held})
	}
	refuses(t, s, command.Clock{Epoch: 0}, api.ErrClock)
	does(t, s, command.Clock{Epoch: 2}, Result{Status: Set})
	if s.Dag().Len() != 1 || len(s.Holds()) != 4 {
		t.Errorf("P21.1: %v", s.Parts())
	}
	refuses(t, s, command.Clock{Epoch: 2}, api.ErrClock)
	refuses(t, s, command.Clock{Epoch: 1}, api.ErrClock)
	does(t, s, command.Clock{Epoch: 5}, Result{Status: Set, Moved: true})
	if s.Dag().Len() != 3 || len(s.Holds()) != 1 || s.Orphans() != nil || s.Clock() != 5 {
		t.Errorf("P21.1: %v", s.Parts())
	}
	leads(t, s, key(b))
	does(t, s, command.Clock{Epoch: 6}, Result{Status: Set, Moved: true})
	leads(t, s, key(d))
	refuses(t, s, command.Clock{Epoch: 0}, api.ErrClock)
}

// P21.1: of held headers of one height the one of the lesser name enters
// ahead. Where the first one comes in, an orphan that wanted it is gone, so
// there is room for the second one, which is an orphan, too.
func TestHeldNames(t *testing.T) {
	for _, first := range []bool{true, false} {
		c := roomy()
		c.Orphans = 1
		s := of(t, c)
		does(t, s, command.Clock{Epoch: 5}, Result{Status: Set})
		x := over(9, 0, 1, "x")
		y := salted(over(9, 1, 1, "y", over(1, 9, 1, "?")), func(n string) bool { return (name(x) < n) == first })
		z := over(4, 2, 1, "z", x)
		does(t, s, block(z), Result{Status: Orphan})
		does(t, s, block(y), Result{Status: Held})
		does(t, s, block(x), Result{Status: Held})
		does(t, s, command.Clock{Epoch: 9}, Result{Status: Set, Moved: true})
		if l := s.Orphans(); s.Dag().Len() != 2 || s.Holds() != nil || (len(l) == 1) != first {
			t.Errorf("P21.1: first %v: orphans %v", first, l)
		}
	}
}

// P21.1: a held header that enters may be an orphan, and go for want of room.
func TestHeldOrphans(t *testing.T) {
	c := roomy()
	c.Orphans = 1
	s := of(t, c)
	lost := over(1, 9, 1, "?")
	a, b := over(3, 0, 1, "a", lost), over(4, 0, 1, "b", lost)
	does(t, s, block(b), Result{Status: Held})
	does(t, s, block(a), Result{Status: Held})
	does(t, s, command.Clock{Epoch: 4}, Result{Status: Set})
	if l := s.Orphans(); s.Holds() != nil || len(l) != 1 || l[0].ID() != a.ID() {
		t.Errorf("P21.1: orphans %v, held %v", l, s.Holds())
	}
}

// orders calls f with each order of 0 to n - 1.
func orders(n int, f func(l []int)) {
	var walk func(l []int)
	walk = func(l []int) {
		if len(l) == n {
			f(l)
		}
		for i := range n {
			if !slices.Contains(l, i) {
				walk(append(slices.Clone(l), i))
			}
		}
	}
	walk(nil)
}

// P21.1, P21.5, P6: orphans come in one behind the other, in any order of their
// coming; one whose parents turn out to be wrong is gone.
func TestOrphans(t *testing.T) {
	a := over(1, 0, 1, "a")
	b := over(2, 1, 1, "b", a)
	c := over(3, 2, 1, "c", b)
	d := over(4, 3, 1, "d", c)
	low := over(3, 4, 9, "l", c)      // at its parents' height
	apart := over(9, 5, 9, "n", a, b) // over no tipset
	l := []header.Header{a, b, c, d, low, apart}
	orders(len(l), func(order []int) {
		s := at(t, 9)
		for _, i := range order {
			s.Apply(block(l[i]))
		}
		if s.Dag().Len() != 5 || s.Orphans() != nil || s.Head().Key() != key(d) || s.Dag().Has(low.ID()) || s.Dag().Has(apart.ID()) {
			t.Fatalf("P21.5: in order %v: %v", order, s.Parts())
		}
	})
	s := at(t, 9)
	for _, h := range []header.Header{low, d, c, b} {
		does(t, s, block(h), Result{Status: Orphan})
	}
	does(t, s, block(a), Result{Status: In, Moved: true})
	leads(t, s, key(d))
	refuses(t, s, block(low), api.ErrHeight) // it was gone, so it isn't there
}

// P21.1, P21.3, P21.4: a certificate's errors, in their order; it is accepted,
// waits, and is tried again when a header came in, and when one was accepted.
func TestCerts(t *testing.T) {
	s := at(t, 9)
	a := over(1, 0, 1, "a")
	b := over(2, 1, 1, "b", a)
	c := over(3, 2, 1, "c", b)
	x, y, z := link(0, key(), key(a)), link(1, key(a), key(b)), link(2, key(b), key(c))
	does(t, s, told(z), Result{Status: Waits})
	does(t, s, told(x), Result{Status: Waits}) // its tipset isn't there
	does(t, s, told(y), Result{Status: Waits})
	refuses(t, s, told(x), api.ErrHave)
	refuses(t, s, command.Cert{Bytes: x.Bytes()}, api.ErrVerdict) // ahead of ErrHave
	refuses(t, s, command.Cert{Bytes: x.Bytes() + "\x00"}, api.ErrForm)
	refuses(t, s, command.Cert{}, api.ErrEnd)
	puts(t, s, a)
	if s.Final().Key() != key(a) || s.Chain().Next() != 1 || len(s.Chain().Waiting()) != 2 {
		t.Errorf("P21.1: certificates %v", s.Parts())
	}
	refuses(t, s, told(x), api.ErrHave)
	refuses(t, s, told(link(0, key(), key(b))), api.ErrInstance)
	refuses(t, s, told(link(1, key(), key(b))), api.ErrBase)
	refuses(t, s, told(cert.Cert{Instance: 1, Base: key(a), Final: key(b)}), api.ErrQuorum)
	does(t, s, block(c), Result{Status: Orphan})
	does(t, s, block(b), Result{Status: In, Moved: true})
	if s.Final().Key() != key(c) || s.Chain().Next() != 3 || s.Chain().Waiting() != nil || len(s.Chain().Certs()) != 3 {
		t.Errorf("P21.1: certificates %v", s.Parts())
	}
	refuses(t, s, told(link(3, key(c), key(b))), api.ErrConflict)       // back
	refuses(t, s, told(link(3, key(c), key(a, b))), api.ErrTipset)      // none
	does(t, s, told(link(3, key(c), key(c))), Result{Status: Accepted}) // once more
	d := over(4, 3, 1, "d", c)
	e := over(5, 3, 1, "e", d)
	does(t, s, told(link(5, key(d), key(e))), Result{Status: Waits})
	puts(t, s, d, e)
	does(t, s, told(link(4, key(c), key(d))), Result{Status: Accepted}) // and the other one
	if s.Final().Key() != key(e) || s.Chain().Next() != 6 {
		t.Errorf("P21.1: certificates %v", s.Parts())
	}
}

// P21.1: a certificate that waited and is refused once its tipset is there is
// gone, and leaves its place to another one; those that wait at their instance
// are looked at by their names.
func TestCertsGo(t *testing.T) {
	s := at(t, 9)
	a, b := over(1, 0, 9, "a"), over(1, 1, 1, "b")
	does(t, s, told(link(0, key(), key(a))), Result{Status: Waits})
	does(t, s, told(link(0, key(), key(b))), Result{Status: Waits})
	does(t, s, told(link(0, key(), key(a, b))), Result{Status: Waits})
	puts(t, s, b)
	if s.Final().Key() != key(b) || s.Chain().Waiting() != nil {
		t.Errorf("P21.1: certificates %v", s.Parts())
	}
	puts(t, s, a)
	leads(t, s, key(b)) // a is heavier, and stays beside what is final
}

// P21.2, P21.3: a certificate of a tipset that isn't on the head's chain takes
// the head along.
func TestCertMovesHead(t *testing.T) {
	s := at(t, 9)
	a, b := over(1, 0, 9, "a"), over(2, 1, 1, "b")
	c, d := over(3, 2, 1, "c", a), over(3, 3, 1, "d", b)
	puts(t, s, a, b, c, d)
	leads(t, s, key(c))
	does(t, s, told(link(0, key(), key(b))), Result{Status: Accepted, Moved: true})
	leads(t, s, key(d))
	if s.Final().Key() != key(b) {
		t.Errorf("P21.3: final is %d", s.Final().Height())
	}
	puts(t, s, over(4, 4, 15, "e", c))
	leads(t, s, key(d))
	does(t, s, told(link(1, key(b), key(d))), Result{Status: Accepted})
}

// P21.1, P21.2, P21.4: a mark's errors, in their order; it forces the head, and
// what is final fits it.
func TestMarks(t *testing.T) {
	s := at(t, 9)
	a, b := over(1, 0, 9, "a"), over(2, 1, 1, "b")
	c, d := over(3, 2, 1, "c", a), over(3, 3, 1, "d", b)
	refuses(t, s, command.Unmark{}, api.ErrNone)
	refuses(t, s, command.Mark{Key: key(b)}, api.ErrNone)
	puts(t, s, a, b, c, d)
	refuses(t, s, command.Mark{Key: key(a, b)}, api.ErrTipset)
	refuses(t, s, command.Mark{Key: key(a, over(8, 8, 1, "?"))}, api.ErrNone)
	does(t, s, command.Mark{Key: key(b)}, Result{Status: Set, Moved: true})
	leads(t, s, key(d))
	refuses(t, s, command.Mark{Key: key(b)}, api.ErrHave)
	refuses(t, s, told(link(0, key(), key(a))), api.ErrConflict)
	does(t, s, command.Mark{Key: key(c)}, Result{Status: Set, Moved: true}) // another one
	does(t, s, command.Mark{Key: key(b)}, Result{Status: Set, Moved: true})
	does(t, s, told(link(0, key(), key(d))), Result{Status: Accepted}) // ahead of what is marked
	if s.Marked().Key() != key(b) || s.Final().Key() != key(d) {
		t.Errorf("P21.1: marked %d, final %d", s.Marked().Height(), s.Final().Height())
	}
	refuses(t, s, command.Mark{Key: key(a)}, api.ErrConflict)
	refuses(t, s, command.Mark{Key: key(c)}, api.ErrConflict)
	refuses(t, s, command.Mark{Key: key(b)}, api.ErrHave)
	does(t, s, command.Mark{Key: key(d)}, Result{Status: Set})
	does(t, s, command.Mark{Key: key()}, Result{Status: Set})
	does(t, s, command.Unmark{}, Result{Status: Set})
	refuses(t, s, command.Unmark{}, api.ErrNone)
	leads(t, s, key(d))
	if !s.Marked().Zero() {
		t.Errorf("P21.1: marked %d", s.Marked().Height())
	}
}

// P21.2: taken away, a mark lets the heaviest one lead again; a certificate of
// a tipset behind it is accepted.
func TestUnmark(t *testing.T) {
	s := at(t, 9)
	a, b := over(1, 0, 15, "a"), over(2, 1, 1, "b")
	d := over(3, 3, 1, "d", b)
	puts(t, s, a, b, d)
	does(t, s, command.Mark{Key: key(d)}, Result{Status: Set, Moved: true})
	does(t, s, told(link(0, key(), key())), Result{Status: Accepted})
	does(t, s, command.Unmark{}, Result{Status: Set, Moved: true})
	leads(t, s, key(a))
	does(t, s, command.Mark{Key: key(d)}, Result{Status: Set, Moved: true})
	does(t, s, told(link(1, key(), key(b))), Result{Status: Accepted})
	does(t, s, command.Unmark{}, Result{Status: Set})
	leads(t, s, key(d)) // as b is final
}

// P21.2: two headers of one miner at one height: neither counts, nor what is
// made of it, but what stands on it does, and what is final, or marked.
func TestTwice(t *testing.T) {
	s := at(t, 9)
	a, b := over(1, 0, 9, "a"), over(1, 1, 1, "b")
	puts(t, s, a, b)
	leads(t, s, key(a, b))
	does(t, s, block(over(1, 0, 9, "z", a)), Result{Code: api.ErrHeight}) // it doesn't come in: a counts on
	again := over(1, 0, 1, "y")
	does(t, s, block(again), Result{Status: In, Moved: true})
	leads(t, s, key(b))
	c := over(2, 2, 1, "c", a)
	does(t, s, block(c), Result{Status: In, Moved: true})
	leads(t, s, key(c))
	twice := over(2, 2, 1, "d", b)
	does(t, s, block(twice), Result{Status: In, Moved: true})
	leads(t, s, key(b))
	does(t, s, command.Mark{Key: key(a)}, Result{Status: Set, Moved: true})
	leads(t, s, key(a))
	does(t, s, command.Unmark{}, Result{Status: Set, Moved: true})
	does(t, s, told(link(0, key(), key(c))), Result{Status: Accepted, Moved: true})
	leads(t, s, key(c))
	if l := s.Filter().Pairs(); len(l) != 2 || l[0].Miner != 0 || l[1].Miner != 2 {
		t.Errorf("P21.1: pairs %v", l)
	}
}

// P21.2: of equal weights the one that was the head stays it; else the one of
// the least ticket leads; where it counts no more, another one does.
func TestEqual(t *testing.T) {
	a, b, c := over(1, 0, 5, "a"), over(2, 1, 5, "b"), over(3, 2, 5, "c")
	orders(3, func(order []int) {
		l := []header.Header{a, b, c}
		s := at(t, 9)
		for _, i := range order {
			puts(t, s, l[i])
		}
		leads(t, s, key(l[order[0]]))
		held := of(t, roomy())
		for _, i := range order {
			held.Apply(block(l[i]))
		}
		does(t, held, command.Clock{Epoch: 9}, Result{Status: Set, Moved: true}) // all at once
		leads(t, held, key(a))
	})
	s := at(t, 9)
	puts(t, s, c, b, a)
	leads(t, s, key(c))
	does(t, s, block(over(3, 2, 1, "z")), Result{Status: In, Moved: true}) // c counts no more
	leads(t, s, key(a))
	does(t, s, command.Mark{Key: key(b)}, Result{Status: Set, Moved: true})
	does(t, s, command.Unmark{}, Result{Status: Set})
	leads(t, s, key(b))
	does(t, s, block(over(4, 3, 6, "d")), Result{Status: In, Moved: true})
}

// P21.1: with a delay a block counts later than it comes in.
func TestDelay(t *testing.T) {
	for delay := range 6 {
		c := roomy()
		c.Delay = delay
		s := of(t, c)
		a := over(1, 0, 1, "a")
		does(t, s, block(a), Result{Status: Held})
		for clock := 1; clock < 8; clock++ {
			does(t, s, command.Clock{Epoch: clock}, Result{Status: Set, Moved: clock == 1+delay})
			if led := s.Head().Key() == key(a); led != (clock >= 1+delay) || s.Dag().Len() != 2 {
				t.Errorf("P21.2: delay %d, clock %d: leads %v", delay, clock, led)
			}
		}
	}
	c := roomy()
	c.Delay = 5
	s := of(t, c)
	a := over(1, 0, 1, "a")
	does(t, s, command.Clock{Epoch: 1}, Result{Status: Set})
	puts(t, s, a)
	does(t, s, command.Mark{Key: key(a)}, Result{Status: Set, Moved: true}) // the floor needn't count
	does(t, s, command.Unmark{}, Result{Status: Set, Moved: true})
	does(t, s, told(link(0, key(), key(a))), Result{Status: Accepted, Moved: true})
}

// P21.1: Moved tells just of a head that is another one: not of one that gains
// blocks beside it on another way.
func TestMoved(t *testing.T) {
	s := at(t, 9)
	a, b := over(1, 0, 5, "a"), over(1, 1, 5, "b")
	does(t, s, block(a), Result{Status: In, Moved: true})
	does(t, s, block(over(2, 2, 1, "c")), Result{Status: In})
	does(t, s, block(b), Result{Status: In, Moved: true}) // both are one tipset, another one than a
	leads(t, s, key(a, b))
	does(t, s, told(link(0, key(), key(a))), Result{Status: Accepted, Moved: true})
	leads(t, s, key(a))
	does(t, s, command.Mark{Key: key(a)}, Result{Status: Set})
	does(t, s, command.Clock{Epoch: 10}, Result{Status: Set})
	does(t, s, command.Unmark{}, Result{Status: Set})
	does(t, s, block(over(20, 0, 1, "h", a)), Result{Status: Held})
	does(t, s, block(over(9, 0, 1, "o", over(3, 3, 3, "?"))), Result{Status: Orphan})
}

// P21.1: a clone is alike, and goes its own way, as the state that it is of
// does.
func TestClone(t *testing.T) {
	s := at(t, 9)
	a, b := over(1, 0, 5, "a"), over(2, 1, 5, "b", over(1, 9, 1, "?"))
	h := over(12, 2, 5, "h", a)
	x := link(1, key(a), key(h))
	puts(t, s, a)
	does(t, s, block(b), Result{Status: Orphan})
	does(t, s, block(h), Result{Status: Held})
	does(t, s, told(x), Result{Status: Waits})
	does(t, s, command.Mark{Key: key(a)}, Result{Status: Set})
	after := []command.Command{
		block(over(1, 0, 1, "q")), block(over(1, 9, 1, "?")), command.Unmark{}, told(link(0, key(), key(a))), command.Clock{Epoch: 20},
		block(over(21, 0, 1, "g", a)), block(over(3, 0, 1, "r", over(2, 2, 2, "?"))), told(link(7, key(), key())), command.Mark{Key: key(h)},
	}
	first := s.Parts()
	clone, other := s.Clone(), s.Clone()
	if !same(first, clone.Parts()) || !reflect.DeepEqual(s.Config(), clone.Config()) {
		t.Fatalf("P21.1: a clone: %v", clone.Parts())
	}
	var results []Result
	for _, c := range after {
		results = append(results, clone.Apply(c))
		if !same(first, s.Parts()) || s.Filter().Pairs() != nil || s.Dag().Len() != 2 || s.Chain().Next() != 0 {
			t.Fatalf("P21.1: %s to a clone changes the state", command.Name(c))
		}
	}
	for i, c := range after {
		if r := s.Apply(c); r != results[i] || r.Code != api.OK {
			t.Errorf("P21.1: %s: %v, to the clone %v", command.Name(c), r, results[i])
		}
	}
	if !same(s.Parts(), clone.Parts()) || !same(first, other.Parts()) || other.Filter().Pairs() != nil {
		t.Errorf("P21.1: a clone: %v", clone.Parts())
	}
	if !clone.Dag().Has(over(1, 0, 1, "q").ID()) || other.Dag().Has(over(1, 0, 1, "q").ID()) {
		t.Errorf("P21.1: a clone's dag")
	}
	puts(t, other, over(2, 3, 9, "k", a), over(3, 4, 9, "l", over(2, 3, 9, "k", a)), over(4, 5, 9, "m", over(3, 4, 9, "l", over(2, 3, 9, "k", a))))
	if other.Head().Height() != 4 || !other.Paths().Descends(other.Head(), tipset.Genesis()) {
		t.Errorf("P21.1: ways through a clone's own blocks")
	}
	if clone.Paths().Weight(clone.Head()).Cmp(s.Paths().Weight(s.Head())) != 0 {
		t.Errorf("P21.1: a clone's paths")
	}
}

// P1, P21.1: a state of some thousand commands; its head is found, though many
// tipsets stand one on the other.
func TestLong(t *testing.T) {
	s := at(t, 1000)
	var last []header.Header
	for i := range 400 {
		h := over(i+1, i%64, 1, "t", last...)
		does(t, s, block(h), Result{Status: In, Moved: true})
		last = []header.Header{h}
	}
	leads(t, s, key(last...))
	does(t, s, told(link(0, key(), key(last...))), Result{Status: Accepted})
}

// P21.1: nothing that was handed in is kept, nothing that was answered shares
// memory with the state.
func TestMemory(t *testing.T) {
	c := roomy()
	s := of(t, c)
	c.Table[0] = table.Entry{Miner: 5, Power: 7}
	s.Config().Table[0].Miner = 6
	if !slices.Equal(s.Config().Table, entries(1)) {
		t.Errorf("rule 5: config %v", s.Config())
	}
	does(t, s, command.Clock{Epoch: 9}, Result{Status: Set})
	a := over(1, 0, 5, "a")
	puts(t, s, a)
	does(t, s, block(over(2, 1, 5, "b", over(1, 9, 1, "?"))), Result{Status: Orphan})
	does(t, s, block(over(12, 2, 5, "h", a)), Result{Status: Held})
	does(t, s, told(link(5, key(a), key(a))), Result{Status: Waits})
	does(t, s, told(link(0, key(), key())), Result{Status: Accepted})
	spoil := func(l []header.Header) {
		for i := range l {
			l[i].Parents[0], l[i].Height = api.ID{9}, 77
		}
	}
	first := s.Parts()
	restored, e := Restore(roomy(), first)
	if e != api.OK {
		t.Fatalf("Restore: %d", e)
	}
	clean := s.Parts()
	spoil(first.Blocks)
	spoil(first.Orphans)
	spoil(first.Holds)
	first.Certs[0].Signers[0], first.Waiting[0].Signers[0] = 9, 9
	spoil(s.Orphans())
	spoil(s.Holds())
	clone := s.Clone()
	spoil(clone.Orphans())
	for _, x := range []*State{s, restored, clone} {
		if !same(x.Parts(), clean) {
			t.Errorf("rule 5: %v, wanted %v", x.Parts(), clean)
		}
	}
	x := roomy()
	restored, _ = Restore(x, clean)
	x.Table[0].Miner = 9
	if restored.Config().Table[0].Miner != 0 {
		t.Errorf("rule 5: Restore keeps the table")
	}
}

// universe is headers, and commands over them.
type universe struct {
	r   *rand.Rand
	all []header.Header // some of them may never come in
}

// pick answers up to n headers, of one height where that goes.
func (u *universe) pick(n int) []header.Header {
	if len(u.all) == 0 || u.r.Intn(6) == 0 {
		return nil
	}
	h := u.all[u.r.Intn(len(u.all))]
	l := []header.Header{h}
	for _, x := range u.all {
		if len(l) < n && x.ID() != h.ID() && (x.Family() == h.Family() && u.r.Intn(2) == 0 || u.r.Intn(40) == 0) {
			l = append(l, x)
		}
	}
	return l
}

// grow adds a header, mostly one that may come in.
func (u *universe) grow() {
	parents := u.pick(1 + u.r.Intn(3))
	height := u.r.Intn(2)
	if len(parents) > 0 {
		height += parents[0].Height
	}
	if u.r.Intn(8) > 0 {
		height++
	}
	h := over(max(height, 1), u.r.Intn(6), 1+u.r.Intn(3), string(rune('a'+u.r.Intn(3))), parents...)
	if u.r.Intn(8) == 0 {
		h.Power = 5
	}
	u.all = append(u.all, h)
}

// command answers some command, over what a plain state knows.
func (u *universe) command(p *plain) command.Command {
	right := u.r.Intn(20) > 0
	switch x := u.r.Intn(20); {
	case x < 10:
		h := u.all[u.r.Intn(len(u.all))]
		return command.Block{Bytes: h.Bytes(), Right: right}
	case x < 14:
		c := cert.Cert{Instance: max(0, len(p.certs)+u.r.Intn(5)/2-u.r.Intn(7)/6), Base: p.final, Final: key(u.pick(3)...)}
		for miner := range 4 {
			if u.r.Intn(12) > 0 {
				c.Signers = append(c.Signers, miner)
			}
		}
		if c.Instance > len(p.certs) || u.r.Intn(6) == 0 {
			c.Base = key(u.pick(2)...)
		}
		if u.r.Intn(4) == 0 {
			c.Change = []table.Entry{{Miner: u.r.Intn(4), Power: u.r.Intn(3)}}
		}
		return command.Cert{Bytes: c.Bytes(), Right: right}
	case x < 16:
		return command.Clock{Epoch: p.clock + u.r.Intn(4) - u.r.Intn(2)}
	case x < 18:
		return command.Mark{Key: key(u.pick(2)...)}
	case x < 19:
		return command.Unmark{}
	}
	return command.Block{Bytes: string(rune(u.r.Intn(9))), Right: right}
}

// sample answers a config of little room.
func (u *universe) sample() Config {
	some := func() int { return []int{0, 1, 2, 3, 64}[u.r.Intn(5)] }
	return Config{Delay: u.r.Intn(3), Orphans: some(), Holds: some(), Waits: some(), Cache: u.r.Intn(5), Table: entries(4)}
}

// P21.1 to P21.4, P2, P3, P7: any commands, held against plain means; what was
// final stays behind what is; parts come to the same state.
func TestPlain(t *testing.T) {
	ends := map[Result]int{}
	for seed := range int64(400) {
		u := &universe{r: rand.New(rand.NewSource(seed))}
		for range 5 + u.r.Intn(20) {
			u.grow()
		}
		c := u.sample()
		s, p := of(t, c), plainly(c)
		for n := range 100 {
			x := u.command(p)
			before, final := s.Parts(), s.Final()
			r, want := s.Apply(x), p.apply(x)
			if r != want {
				t.Fatalf("P21.1: seed %d, command %d, %s: %v, wanted %v", seed, n, command.Name(x), r, want)
			}
			if !same(s.Parts(), p.parts()) {
				t.Fatalf("P21.1: seed %d, command %d, %s: %v, wanted %v", seed, n, command.Name(x), s.Parts(), p.parts())
			}
			ends[r]++
			if r.Code != api.OK && !same(before, s.Parts()) {
				t.Fatalf("P21.4: seed %d, command %d, %s", seed, n, command.Name(x))
			}
			if r.Code == api.OK && (before.Head != s.Head().Key()) != r.Moved {
				t.Fatalf("P21.1: seed %d, command %d, %s: Moved %v", seed, n, command.Name(x), r.Moved)
			}
			if !p.descends(s.Final().Key(), final.Key()) || !p.descends(s.Head().Key(), s.Final().Key()) {
				t.Fatalf("P21.3: seed %d, command %d, %s", seed, n, command.Name(x))
			}
			if !s.Marked().Zero() && !p.descends(s.Head().Key(), s.Marked().Key()) {
				t.Fatalf("P21.2: seed %d, command %d, %s", seed, n, command.Name(x))
			}
			if n%10 == 0 {
				back, e := Restore(c, s.Parts())
				if e != api.OK || !same(back.Parts(), s.Parts()) || back.Chain().Table() != s.Chain().Table() {
					t.Fatalf("P21.1: seed %d, command %d: Restore: %d", seed, n, e)
				}
				if u.r.Intn(2) == 0 {
					s = back // it goes on alike
				}
			}
		}
	}
	for _, want := range []Result{
		{Status: In}, {Status: In, Moved: true}, {Status: Orphan}, {Status: Held}, {Status: Gone}, {Status: Accepted}, {Status: Accepted, Moved: true},
		{Status: Waits}, {Status: Set}, {Status: Set, Moved: true}, {Code: api.ErrVerdict}, {Code: api.ErrHave}, {Code: api.ErrParents}, {Code: api.ErrHeight},
		{Code: api.ErrInstance}, {Code: api.ErrBase}, {Code: api.ErrQuorum}, {Code: api.ErrTipset}, {Code: api.ErrConflict}, {Code: api.ErrClock}, {Code: api.ErrNone},
	} {
		if ends[want] == 0 {
			t.Errorf("no command ended as %v", want)
		}
	}
	t.Log(ends)
}

// P21.5, P6: the same headers, clocks and certificates of one chain in any
// order, again and again, with what is refused between, come to the same
// blocks, certificates and clock, and to heads of one weight.
func TestOrder(t *testing.T) {
	for seed := range int64(150) {
		u := &universe{r: rand.New(rand.NewSource(seed))}
		for range 5 + u.r.Intn(25) {
			u.grow()
		}
		var l []command.Command
		for _, h := range u.all {
			l = append(l, block(h))
		}
		l = append(l, command.Clock{Epoch: 2}, command.Clock{Epoch: 5}, command.Clock{Epoch: 3 + u.r.Intn(5)})
		c := roomy()
		c.Delay = u.r.Intn(3)
		first := of(t, c)
		for _, x := range l {
			first.Apply(x)
		}
		way, _ := first.Paths().Between(first.Head(), tipset.Genesis())
		slices.Reverse(way)
		base := key()
		for i, x := range way { // each is final, one behind the other
			l = append(l, told(link(i, base, x.Key())))
			first.Apply(told(link(i, base, x.Key())))
			base = x.Key()
		}
		want := first.Parts()
		for range 5 {
			s := of(t, c)
			for _, i := range u.r.Perm(len(l)) {
				s.Apply(l[i])
				s.Apply(l[u.r.Intn(len(l))])
				s.Apply(command.Unmark{})
				s.Apply(command.Block{Bytes: "?", Right: true})
			}
			got := s.Parts()
			if got.Clock != want.Clock || !reflect.DeepEqual(got.Blocks, want.Blocks) || !reflect.DeepEqual(got.Certs, want.Certs) || s.Final().Key() != first.Final().Key() {
				t.Fatalf("P21.5: seed %d: %v, wanted %v", seed, got, want)
			}
			if !same(Parts{Orphans: got.Orphans, Holds: got.Holds, Waiting: got.Waiting}, Parts{Orphans: want.Orphans, Holds: want.Holds}) {
				t.Fatalf("P21.5: seed %d: what waits: %v, wanted %v", seed, got, want)
			}
			if s.Paths().Weight(s.Head()).Cmp(first.Paths().Weight(first.Head())) != 0 {
				t.Fatalf("P21.5: seed %d: heads of unlike weights", seed)
			}
		}
	}
}
