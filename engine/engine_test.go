package engine

import (
	"crypto/sha256"
	"math"
	"reflect"
	"slices"
	"strings"
	"testing"

	"coxswain/api"
	"coxswain/cert"
	"coxswain/command"
	"coxswain/disk"
	"coxswain/feed"
	"coxswain/header"
	"coxswain/journal"
	"coxswain/snap"
	"coxswain/state"
	"coxswain/table"
)

// roomy answers a config of room enough, where miner 0 signs alone.
func roomy() state.Config {
	return state.Config{Orphans: 64, Holds: 64, Waits: 64, Cache: 9, Table: []table.Entry{{Miner: 0, Power: 1}}}
}

// key answers the key of headers (of none: that of the genesis).
func key(l ...header.Header) string {
	var names []api.ID
	for _, h := range l {
		names = append(names, h.ID())
	}
	if len(l) == 0 {
		names = append(names, header.Root())
	}
	return header.Key(names...)
}

// over answers a header over a tipset of these (none: the genesis).
func over(height, miner, wins int, ticket string, parents ...header.Header) header.Header {
	h := header.Header{Height: height, Miner: miner, Ticket: ticket, Wins: wins, Power: 2}
	h.Parents, _ = header.Names(key(parents...))
	return h
}

// block, link and clock answer commands: of a header, of a certificate that
// miner 0 signs, of an epoch.
func block(h header.Header) command.Command { return command.Block{Bytes: h.Bytes(), Right: true} }

func link(instance int, base, final string) command.Command {
	c := cert.Cert{Instance: instance, Base: base, Final: final, Signers: []int{0}}
	return command.Cert{Bytes: c.Bytes(), Right: true}
}

func clock(epoch int) command.Command { return command.Clock{Epoch: epoch} }

// story answers commands that all end without an error, and do all that
// commands may do: the head moves up, over to other ways, and back.
func story() []command.Command {
	a, b := over(1, 0, 1, "a"), over(1, 1, 9, "b")
	c := over(2, 2, 1, "c", a)
	d := over(3, 3, 9, "d", c)
	return []command.Command{
		block(a), clock(1), block(d), clock(4), block(b), block(c), // d waits for the clock, then for c
		command.Mark{Key: key(b)}, command.Mark{Key: key(a, b)}, command.Unmark{},
		link(1, key(a), key(c)), link(0, key(), key(a)), // the first one waits for the second one
		block(over(4, 0, 1, "x", over(3, 4, 4, "?"))), block(over(90, 0, 1, "h")), clock(8),
		link(5, key(), key()),
	}
}

// come answers the state that new ones come to by commands, all of which are to
// end without an error.
func come(t *testing.T, c state.Config, l ...command.Command) *state.State {
	t.Helper()
	s, e := state.New(c)
	if e != api.OK {
		t.Fatalf("New: %d", e)
	}
	for i, x := range l {
		if r := s.Apply(x); r.Code != api.OK {
			t.Fatalf("command %d, %s: %v", i, command.Name(x), r)
		}
	}
	return s
}

// framed answers the frames of records, made with the library's digest.
func framed(l ...string) string {
	var b []byte
	for _, s := range l {
		n, sum := len(s), sha256.Sum256([]byte(s))
		b = append(b, byte(n>>24), byte(n>>16), byte(n>>8), byte(n))
		b = append(b, sum[:4]...)
		b = append(b, s...)
	}
	return string(b)
}

// records answers those of commands.
func records(l ...command.Command) []string {
	var records []string
	for _, c := range l {
		records = append(records, "c"+command.Bytes(c))
	}
	return records
}

// holding answers a disk of much room with these bytes as its log, synced.
func holding(t *testing.T, s string) *disk.Disk {
	t.Helper()
	d := disk.New(1 << 24)
	if d.Append("log", s) != api.OK || d.Sync("log") != api.OK {
		t.Fatal("no room")
	}
	return d
}

// told is all that a disk tells.
type told struct {
	used, deeds  int
	down         bool
	names, bytes []string
	loose        []int
}

// tell answers what a disk tells, its files' bytes by a clone that is up.
func tell(d *disk.Disk) told {
	_, e := d.Read("log")
	x := told{used: d.Used(), deeds: d.Deeds(), down: e == api.ErrDown, names: d.Names()}
	c := d.Clone()
	c.Crash(math.MaxInt, math.MaxInt, math.MaxInt)
	for _, name := range x.names {
		s, _ := c.Read(name)
		x.bytes = append(x.bytes, s)
		x.loose = append(x.loose, d.Loose(name))
	}
	return x
}

// logs tells of a disk that has another file, or another log.
func logs(t *testing.T, promise string, d *disk.Disk, want ...string) {
	t.Helper()
	s, e := d.Read("log")
	if s != framed(want...) || e != api.OK || d.Loose("log") != 0 || !slices.Equal(d.Names(), []string{"log"}) {
		t.Errorf("%s: %q, %d; the log has %x, wanted %x", promise, d.Names(), e, s, framed(want...))
	}
}

// opened answers the engine of a disk, which is to have that state.
func opened(t *testing.T, promise string, d *disk.Disk, c state.Config, want *state.State) *Engine {
	t.Helper()
	e, wrong := Open(d, c)
	if wrong != api.OK || e == nil {
		t.Fatalf("%s: Open: %d", promise, wrong)
	}
	has(t, promise, e, want)
	if s, _ := d.Read("log"); e.Size() != len(s) {
		t.Errorf("%s: Size %d of %d", promise, e.Size(), len(s))
	}
	return e
}

// has tells of an engine that has another state.
func has(t *testing.T, promise string, e *Engine, want *state.State) {
	t.Helper()
	s := e.State()
	if !snap.Same(s, want) || !reflect.DeepEqual(s.Config(), want.Config()) || s.Chain().Table() != want.Chain().Table() {
		t.Fatalf("%s: a state %v, wanted %v", promise, s.Parts(), want.Parts())
	}
}

// refused tells that Open answers that error, and nothing else, of a disk that
// it leaves as it is.
func refused(t *testing.T, what string, d *disk.Disk, c state.Config, want api.Errno) {
	t.Helper()
	x := tell(d)
	if e, wrong := Open(d, c); e != nil || wrong != want {
		t.Errorf("P24.1: %s: %v, %d, wanted %d", what, e != nil, wrong, want)
	}
	if !reflect.DeepEqual(tell(d), x) {
		t.Errorf("P24.1: %s: the disk is %v, was %v", what, tell(d), x)
	}
}

// does has an engine do a command that is to end so.
func does(t *testing.T, e *Engine, c command.Command, want state.Result) {
	t.Helper()
	if r := e.Do(c); r != want {
		t.Fatalf("P24.1: %s: %v, wanted %v", command.Name(c), r, want)
	}
}

// all has an engine do commands that are to end without an error.
func all(t *testing.T, e *Engine, l ...command.Command) {
	t.Helper()
	for i, c := range l {
		if r := e.Do(c); r.Code != api.OK {
			t.Fatalf("P24.1: command %d, %s: %v", i, command.Name(c), r)
		}
	}
}

// isOK fails a test if what was done answered an error.
func isOK(t *testing.T, e api.Errno) {
	t.Helper()
	if e != api.OK {
		t.Fatalf("it answered %d", e)
	}
}

// P24.1: of an empty disk there is a new state; nothing is made on it.
func TestOpenEmpty(t *testing.T) {
	d := disk.New(0)
	e := opened(t, "P24.1", d, roomy(), come(t, roomy()))
	if e.Size() != 0 || d.Deeds() != 0 || len(d.Names()) != 0 || len(e.Hub().Numbers()) != 0 {
		t.Errorf("P24.1: %d bytes, %d deeds, %q, feeds %v", e.Size(), d.Deeds(), d.Names(), e.Hub().Numbers())
	}
	c := roomy()
	c.Delay, c.Waits = 3, 0
	opened(t, "P24.1", d, c, come(t, c))
	opened(t, "P24.1", holding(t, ""), c, come(t, c)) // a log of no bytes
}

// P24.1: the chapter's example.
func TestExample(t *testing.T) {
	d := disk.New(1000)
	e := opened(t, "P24.1", d, roomy(), come(t, roomy()))
	does(t, e, clock(5), state.Result{Status: state.Set})
	d.Crash()
	e = opened(t, "P24.2", d, roomy(), come(t, roomy(), clock(5)))
	if e.State().Clock() != 5 {
		t.Errorf("P24.2: the clock is at %d", e.State().Clock())
	}
}

// P24.1: an error of the config is told ahead of all else.
func TestOpenConfig(t *testing.T) {
	down := holding(t, framed("x"))
	down.Halt(0)
	down.Sync("log")
	for _, x := range []struct {
		spoil func(*state.Config)
		want  api.Errno
	}{
		{func(c *state.Config) { c.Delay = -1 }, api.ErrArg},
		{func(c *state.Config) { c.Delay = 6 }, api.ErrArg},
		{func(c *state.Config) { c.Orphans = 65 }, api.ErrArg},
		{func(c *state.Config) { c.Holds = -1 }, api.ErrArg},
		{func(c *state.Config) { c.Waits = 65 }, api.ErrArg},
		{func(c *state.Config) { c.Table = nil }, api.ErrArg},
		{func(c *state.Config) { c.Table = []table.Entry{{Miner: 0, Power: 0}} }, api.ErrArg},
		{func(c *state.Config) { c.Table = make([]table.Entry, 65) }, api.ErrBig},
	} {
		c := roomy()
		x.spoil(&c)
		if e := c.Check(); e != x.want {
			t.Fatalf("Check: %d, wanted %d", e, x.want)
		}
		refused(t, "a wrong config", disk.New(100), c, x.want)
		refused(t, "a wrong config, and a bad log", holding(t, "\xff\xff\xff\xff\xff\xff\xff\xff"), c, x.want)
		refused(t, "a wrong config, and a disk that is down", down, c, x.want)
	}
	refused(t, "a disk that is down", down, roomy(), api.ErrDown)
}

// P24.1: the journal's errors; what it is about to do on a disk that goes down
// meanwhile.
func TestOpenJournal(t *testing.T) {
	good := framed(records(clock(5))...)
	refused(t, "a number beyond", holding(t, good+"\x00\x10\x00\x01\x00\x00\x00\x00"), roomy(), api.ErrBad)
	refused(t, "another sum", holding(t, good+"\x00\x00\x00\x01\xca\x97\x81\x12b"), roomy(), api.ErrBad)
	for n := range 2 {
		d := holding(t, good+"\x00\x00")
		isOK(t, d.Append("new", "ab"))
		d.Halt(n)
		if e, wrong := Open(d, roomy()); e != nil || wrong != api.ErrDown || !tell(d).down {
			t.Errorf("P24.1: behind %d deeds: %v, %d", n, e != nil, wrong)
		}
		d.Crash(1)
		opened(t, "P24.2", d, roomy(), come(t, roomy(), clock(5)))
		logs(t, "P24.1", d, records(clock(5))...)
	}
}

// P24.1: a state's record as the first one alone, commands' records behind it,
// or without it.
func TestOpenRecords(t *testing.T) {
	l := story()
	for n := range len(l) + 1 {
		s := come(t, roomy(), l[:n]...)
		kept := "s" + snap.Save(s)
		opened(t, "P24.1", holding(t, framed(records(l[:n]...)...)), roomy(), s)
		opened(t, "P24.1", holding(t, framed(kept)), roomy(), s)
		opened(t, "P24.1", holding(t, framed(append([]string{kept}, records(l[n:]...)...)...)), roomy(), come(t, roomy(), l...))
		for first := range n { // a state's record where it may not stand
			wrong := append(records(l[:first+1]...), kept)
			refused(t, "a state's record behind another one", holding(t, framed(wrong...)), roomy(), api.ErrBad)
		}
		refused(t, "two states' records", holding(t, framed(kept, kept)), roomy(), api.ErrBad)
		refused(t, "a state's record, and another thing behind it", holding(t, framed(kept+"\x00")), roomy(), api.ErrBad)
	}
}

// P24.1, P7: records that are none, as the first one, and behind others; the
// disk stays as it is, also where there was something to be tidied.
func TestOpenBad(t *testing.T) {
	s := snap.Save(come(t, roomy(), clock(7)))
	tick := command.Bytes(clock(9))
	far := over(1, 7, 1, "far")
	for _, bad := range []string{
		"", "x", "c", "s", "C" + tick, "S" + s, "\x00", tick, s, "cc" + tick, "ss" + s, "sc" + tick,
		"c" + tick + "\x00", "c" + tick[:len(tick)-1], "c\x01\x09", "c\x00", "c" + s, "c\x01\x03\x01\x00",
		"c" + command.Bytes(command.Block{Bytes: "?", Right: true}), // refused: no header's bytes
		"c" + command.Bytes(command.Block{Bytes: far.Bytes()}),      // not right
		"c" + command.Bytes(clock(0)),                               // the clock doesn't go back
		"c" + command.Bytes(command.Mark{Key: key(far)}),            // it isn't there
		"c" + command.Bytes(command.Unmark{}),                       // nothing is marked
		"c" + command.Bytes(link(0, key(far), key())),               // it goes on elsewhere
		"c" + command.Bytes(command.Cert{Bytes: "", Right: true}),   //
		"s" + s[:len(s)-1], "s" + s + "x", "s" + tick, "s\x00\x00\x00" + s[35:], // no state's: no head
		"s" + strings.Replace(s, "\x01\x07", "\x01\x00", 1),
	} {
		for _, ahead := range [][]string{nil, records(clock(1)), {"s" + s}, records(story()...)} {
			l := append(slices.Clone(ahead), bad)
			refused(t, "a record "+bad, holding(t, framed(l...)), roomy(), api.ErrBad)
			refused(t, "a record ahead of another one "+bad, holding(t, framed(append(l, records(clock(1000))...)...)), roomy(), api.ErrBad)
		}
		d := holding(t, framed(bad))
		isOK(t, d.Append("log", "\x00\x00"))
		isOK(t, d.Append("new", "ab"))
		refused(t, "a record, to be tidied "+bad, d, roomy(), api.ErrBad)
		d.Halt(0)
		if _, e := Open(d, roomy()); e != api.ErrDown || !tell(d).down { // layer 10's error comes ahead
			t.Errorf("P24.1: of a disk that is to be down: %d", e)
		}
	}
}

// P24.1: a record that is broken off is none: what is left of it is cut.
func TestOpenBroken(t *testing.T) {
	l := story()
	good, last := framed(records(l[:3]...)...), framed(records(l[3])...)
	for n := range len(last) {
		d := holding(t, good+last[:n])
		opened(t, "P24.2", d, roomy(), come(t, roomy(), l[:3]...))
		logs(t, "P24.1", d, records(l[:3]...)...)
	}
	opened(t, "P24.2", holding(t, good+last), roomy(), come(t, roomy(), l[:4]...))
}

// P24.1: commands end as they do of a state, each is a record, in two deeds.
func TestDo(t *testing.T) {
	c := roomy()
	c.Delay, c.Holds = 1, 1
	d := disk.New(1 << 16)
	e := opened(t, "P24.1", d, c, come(t, c))
	s := come(t, c)
	var done []command.Command
	for _, x := range append(story(), block(over(95, 0, 1, "i"))) { // the last one is gone at once
		want := s.Apply(x)
		does(t, e, x, want)
		has(t, "P24.1", e, s)
		done = append(done, x)
		logs(t, "P24.1", d, records(done...)...)
		if d.Deeds() != 2*len(done) || e.Size() != d.Used() {
			t.Errorf("P24.1: %d deeds, Size %d of %d", d.Deeds(), e.Size(), d.Used())
		}
	}
	if r := s.Apply(block(over(96, 0, 1, "j"))); r != (state.Result{Status: state.Gone}) {
		t.Errorf("P24.1: %v", r)
	}
	opened(t, "P24.2", d, c, come(t, c, done...))
}

// P24.1, P7: a command that is refused tells why, writes nothing, and changes
// nothing, though there is no room, and though the disk is to be down.
func TestDoRefused(t *testing.T) {
	a := over(1, 0, 1, "a")
	var none *command.Clock
	for _, x := range []struct {
		c    command.Command
		want api.Errno
	}{
		{nil, api.ErrKind}, {none, api.ErrKind}, {&command.Clock{Epoch: 99}, api.ErrKind}, {odd{}, api.ErrKind},
		{command.Block{Bytes: strings.Repeat("x", 4097), Right: true}, api.ErrBig},
		{clock(-1), api.ErrArg}, {clock(1<<30 + 1), api.ErrArg}, {command.Mark{Key: "k"}, api.ErrArg},
		{command.Block{Bytes: "", Right: true}, api.ErrEnd}, {command.Block{Bytes: a.Bytes() + "x", Right: true}, api.ErrForm},
		{command.Block{Bytes: over(1, 0, 1, "z").Bytes()}, api.ErrVerdict}, {block(a), api.ErrHave},
		{block(over(1, 5, 1, "p", a)), api.ErrHeight}, {clock(8), api.ErrClock}, {clock(7), api.ErrClock},
		{command.Mark{Key: key(over(1, 1, 1, "q"))}, api.ErrNone}, {link(0, key(a), key()), api.ErrBase}, {command.Unmark{}, api.ErrNone},
	} {
		d := disk.New(400)
		e := opened(t, "P24.1", d, roomy(), come(t, roomy()))
		all(t, e, clock(8), block(a))
		want, before, was := come(t, roomy(), clock(8), block(a)), e.State(), tell(d)
		id, _ := e.Join(9)
		f, _ := e.Hub().Feed(id)
		for _, spoil := range []func(){func() {}, func() { d.Append("other", strings.Repeat("x", 400-d.Used())); was = tell(d) }, func() { d.Halt(0) }} {
			spoil()
			does(t, e, x.c, state.Result{Code: x.want})
			if !reflect.DeepEqual(tell(d), was) || e.State() != before || f.Len() != 0 {
				t.Errorf("P24.1: what is refused with %d changes something: %v, was %v", x.want, tell(d), was)
			}
			has(t, "P24.1", e, want)
		}
	}
}

// odd is no command, though it has a kind.
type odd struct{}

func (odd) Kind() int { panic("no kind") }

// P24.4: a command whose record just fits, and one byte less room.
func TestDoFits(t *testing.T) {
	for i, c := range story() {
		before := story()[:i]
		size := len(framed(records(before...)...))
		need := Room(len(command.Bytes(c)))
		if need != len(framed("c"+command.Bytes(c))) {
			t.Errorf("P24.1: Room %d", need)
		}
		for less := range 3 {
			d := disk.New(size + need - less)
			e := opened(t, "P24.1", d, roomy(), come(t, roomy()))
			all(t, e, before...)
			id, _ := e.Join(9)
			f, _ := e.Hub().Feed(id)
			want, was := come(t, roomy(), before...), tell(d)
			if less == 0 {
				does(t, e, c, want.Apply(c))
				logs(t, "P24.4", d, records(story()[:i+1]...)...)
			} else {
				d.Halt(0) // which comes behind the room
				does(t, e, c, state.Result{Code: api.ErrFull})
				does(t, e, c, state.Result{Code: api.ErrFull})
				if !reflect.DeepEqual(tell(d), was) || f.Len() != 0 {
					t.Errorf("P24.4: the disk is %v, was %v; %d events", tell(d), was, f.Len())
				}
			}
			has(t, "P24.4", e, want)
			d.Crash()
			opened(t, "P24.2", d, roomy(), want)
		}
	}
}

// P24.4: behind ErrFull the engine goes on: with what needs less room, and with
// more behind a Compact that finds room.
func TestDoFull(t *testing.T) {
	a := over(1, 0, 1, "a")
	tick := Room(len(command.Bytes(clock(1))))
	d := disk.New(10*tick + 5)
	e := opened(t, "P24.1", d, roomy(), come(t, roomy()))
	var done []command.Command
	for i := range 6 {
		done = append(done, clock(i+1))
	}
	all(t, e, done...)
	does(t, e, block(a), state.Result{Code: api.ErrFull})
	done = append(done, clock(7))
	all(t, e, clock(7))
	does(t, e, block(a), state.Result{Code: api.ErrFull})
	if e.Compact() != api.ErrFull {
		t.Error("P24.4: there is room for a state")
	}
	all(t, e, clock(8))
	opened(t, "P24.2", d, roomy(), come(t, roomy(), append(done, clock(8))...))
}

// P24.1: once a call answered ErrDown, Do and Compact answer that, whatever
// they are asked, till the disk is opened anew; all else is answered on.
func TestDown(t *testing.T) {
	l := story()
	for n := range 5 { // Do has two deeds, Compact three
		d := disk.New(1 << 16)
		e := opened(t, "P24.1", d, roomy(), come(t, roomy()))
		all(t, e, l[:6]...)
		want, size := come(t, roomy(), l[:6]...), e.Size()
		id, _ := e.Join(9)
		if n < 2 {
			d.Halt(n)
			does(t, e, l[6], state.Result{Code: api.ErrDown})
		} else {
			d.Halt(n - 2)
			if x := e.Compact(); x != api.ErrDown {
				t.Errorf("P24.1: Compact: %d", x)
			}
		}
		for range 2 {
			for _, c := range []command.Command{l[6], nil, clock(1), command.Unmark{}} {
				does(t, e, c, state.Result{Code: api.ErrDown})
			}
			if x := e.Compact(); x != api.ErrDown {
				t.Errorf("P24.1: Compact: %d", x)
			}
			has(t, "P24.2", e, want)
			f, is := e.Hub().Feed(id)
			if !is || f.Len() != 0 || f.Start().Key() != want.Head().Key() || e.Size() < size {
				t.Errorf("P24.1: a feed of %d, Size %d", f.Len(), e.Size())
			}
			if _, x := e.Join(1); x != api.OK {
				t.Errorf("P24.1: Join: %d", x)
			}
			if _, x := Open(d, roomy()); tell(d).down != (x == api.ErrDown) {
				t.Errorf("P24.1: Open: %d", x)
			}
			d.Crash() // the disk is up again, the engine isn't
		}
		e = opened(t, "P24.2", d, roomy(), want)
		all(t, e, l[6:]...)
		if x := e.Compact(); x != api.OK {
			t.Errorf("P24.1: Compact: %d", x)
		}
		opened(t, "P24.3", d, roomy(), come(t, roomy(), l...))
	}
}

// P24.1: the journal is the state's record alone, at any time, and again; it
// goes on from there.
func TestCompact(t *testing.T) {
	l := story()
	for n := range len(l) + 1 {
		d := disk.New(1 << 16)
		e := opened(t, "P24.1", d, roomy(), come(t, roomy()))
		all(t, e, l[:n]...)
		want := come(t, roomy(), l[:n]...)
		kept := "s" + snap.Save(want)
		for range 2 {
			isOK(t, e.Compact())
			logs(t, "P24.1", d, kept)
			has(t, "P24.1", e, want)
			if e.Size() != len(kept)+8 {
				t.Errorf("P24.1: Size %d", e.Size())
			}
		}
		all(t, e, l[n:]...)
		logs(t, "P24.1", d, append([]string{kept}, records(l[n:]...)...)...)
		d.Crash()
		e = opened(t, "P24.2", d, roomy(), come(t, roomy(), l...))
		isOK(t, e.Compact())
		d.Crash()
		opened(t, "P24.2", d, roomy(), come(t, roomy(), l...))
	}
}

// P24.4: a Compact for which there is just room beside the log, and one byte
// less: nothing is changed then.
func TestCompactFits(t *testing.T) {
	l := story()
	for n := range len(l) + 1 {
		want := come(t, roomy(), l[:n]...)
		size, kept := len(framed(records(l[:n]...)...)), "s"+snap.Save(want)
		for less := range 3 {
			d := disk.New(max(size, size+len(kept)+8-less))
			e := opened(t, "P24.1", d, roomy(), come(t, roomy()))
			all(t, e, l[:n]...)
			was := tell(d)
			if less == 0 {
				isOK(t, e.Compact())
				logs(t, "P24.4", d, kept)
			} else {
				d.Halt(0) // which comes behind the room
				if x := e.Compact(); x != api.ErrFull || !reflect.DeepEqual(tell(d), was) {
					t.Errorf("P24.4: %d; the disk is %v, was %v", x, tell(d), was)
				}
				if x := e.Compact(); x != api.ErrFull {
					t.Errorf("P24.4: again: %d", x)
				}
			}
			has(t, "P24.4", e, want)
			d.Crash()
			opened(t, "P24.2", d, roomy(), want)
		}
	}
}

// P24.1: a state whose bytes are too many for a record: Compact answers the
// journal's error, and changes nothing; commands go on.
func TestCompactTooLong(t *testing.T) {
	const most = 1 << 20
	p := state.Parts{Clock: 2, Head: key()}
	h := over(1, 0, 1, "longname")
	for h.Salt = 1 << 24; len(p.Blocks) < (most-100)/(len(h.Bytes())+2); h.Salt++ {
		p.Blocks = append(p.Blocks, h) // all of them ban one another
	}
	slices.SortFunc(p.Blocks, func(a, b header.Header) int { return strings.Compare(key(a), key(b)) })
	s, wrong := state.Restore(roomy(), p)
	isOK(t, wrong)
	d := holding(t, framed("s"+snap.Save(s)))
	e := opened(t, "P24.1", d, roomy(), s)
	isOK(t, e.Compact()) // as it was
	more := []command.Command{block(over(2, 1, 1, "a", p.Blocks[0])), block(over(2, 2, 1, "b", p.Blocks[1]))}
	all(t, e, more...)
	for _, c := range more {
		s.Apply(c)
	}
	was := tell(d)
	for range 2 {
		if x := e.Compact(); len(snap.Save(s)) < most || x != api.ErrArg || !reflect.DeepEqual(tell(d), was) {
			t.Errorf("P24.1: Compact of %d bytes: %d", len(snap.Save(s)), x)
		}
	}
	has(t, "P24.1", e, s)
	does(t, e, clock(3), s.Apply(clock(3)))
	opened(t, "P24.2", d, roomy(), s)
}

// P24.3: opened twice, and thrice, it is the same; so is the disk.
func TestTwice(t *testing.T) {
	l := story()
	for n := range len(l) + 1 {
		d := disk.New(1 << 16)
		e := opened(t, "P24.1", d, roomy(), come(t, roomy()))
		all(t, e, l[:n]...)
		if n%3 == 2 {
			isOK(t, e.Compact())
		}
		was, want := tell(d), come(t, roomy(), l[:n]...)
		for range 3 {
			e = opened(t, "P24.3", d, roomy(), want)
			if !reflect.DeepEqual(tell(d), was) || len(e.Hub().Numbers()) != 0 {
				t.Errorf("P24.3: the disk is %v, was %v", tell(d), was)
			}
		}
		all(t, e, l[n:]...)
		opened(t, "P24.3", d, roomy(), come(t, roomy(), l...))
	}
}

// P24.1 to P24.3: with a Compact, an Open, or neither, between commands all
// comes to the same, and ends the same.
func TestBetween(t *testing.T) {
	l := append(story(), clock(3), nil, command.Unmark{}) // and some that are refused
	for ways := range 81 {
		d := disk.New(1 << 16)
		e := opened(t, "P24.1", d, roomy(), come(t, roomy()))
		s := come(t, roomy())
		for i, c := range l {
			does(t, e, c, s.Apply(c))
			has(t, "P24.3", e, s)
			switch way := ways / []int{1, 3, 9, 27}[i%4] % 3; way {
			case 1:
				isOK(t, e.Compact())
				has(t, "P24.3", e, s)
			case 2:
				d.Crash()
				e = opened(t, "P24.3", d, roomy(), s)
			}
		}
		opened(t, "P24.3", d, roomy(), s)
	}
}

// P24.1: how many bytes a command takes of the journal.
func TestRoom(t *testing.T) {
	for _, x := range [][2]int{{0, 9}, {1, 10}, {5, 14}, {4096, 4105}, {-1, 9}, {math.MinInt, 9}} {
		if n := Room(x[0]); n != x[1] {
			t.Errorf("P24.1: Room(%d): %d, wanted %d", x[0], n, x[1])
		}
	}
	d := disk.New(1 << 16)
	e := opened(t, "P24.1", d, roomy(), come(t, roomy()))
	size := 0
	for _, c := range story() {
		all(t, e, c)
		size += Room(len(command.Bytes(c)))
		if e.Size() != size {
			t.Errorf("P24.1: Size %d, wanted %d", e.Size(), size)
		}
	}
	Room(math.MaxInt) // P1: it ends
}

// P24.1: a journal's calls are an engine's own.
func TestEmbedded(t *testing.T) {
	e := opened(t, "P24.1", disk.New(100), roomy(), come(t, roomy()))
	all(t, e, clock(1))
	var x interface{ Size() int } = e.Journal
	if e.Size() != x.Size() || e.Size() != journal.Cost(5) {
		t.Errorf("P24.1: Size %d, of the journal %d", e.Size(), x.Size())
	}
}

// Rule 5: a config that is handed in isn't kept; a state that was answered
// stays as it was.
func TestMemory(t *testing.T) {
	c := roomy()
	d := disk.New(1 << 16)
	e := opened(t, "P24.1", d, c, come(t, roomy()))
	c.Table[0] = table.Entry{Miner: 9, Power: 9}
	s := e.State()
	all(t, e, story()...)
	if s.Clock() != 0 || s.Dag().Len() != 1 {
		t.Errorf("rule 5: the state that was is %v", s.Parts())
	}
	has(t, "rule 5", e, come(t, roomy(), story()...))
	isOK(t, e.Compact())
	opened(t, "rule 5", d, roomy(), come(t, roomy(), story()...))
}

// P24.1, P24.5: a feed is from the head on; there are sixteen at most, and who
// left is gone; they are those of the hub.
func TestJoin(t *testing.T) {
	d := disk.New(1 << 16)
	e := opened(t, "P24.1", d, roomy(), come(t, roomy()))
	a, b := over(1, 0, 1, "a"), over(2, 1, 1, "b", over(1, 0, 1, "a"))
	joins := func(most, want int, head string) *feed.Feed {
		t.Helper()
		id, x := e.Join(most)
		f, is := e.Hub().Feed(id)
		if x != api.OK || id != want || !is || f.Len() != 0 || f.Start().Key() != head {
			t.Fatalf("P24.1: Join: %d, %d", id, x)
		}
		return f
	}
	first := joins(9, 0, key())
	all(t, e, clock(9), block(a))
	second := joins(0, 1, key(a)) // as of 1
	all(t, e, block(b), clock(10), block(over(2, 2, 1, "c")))
	up := []feed.Event{{Kind: feed.Apply, Key: key(a), Height: 1}, {Kind: feed.Apply, Key: key(b), Height: 2}}
	if l := first.Take(9); !slices.Equal(l, up) {
		t.Errorf("P24.5: %v", l)
	}
	if l := second.Take(9); !slices.Equal(l, up[1:]) {
		t.Errorf("P24.5: %v", l)
	}
	for id := 2; id < 16; id++ {
		joins(64, id, key(b))
	}
	if id, x := e.Join(5); id != 0 || x != api.ErrBig {
		t.Errorf("P24.1: a seventeenth feed: %d, %d", id, x)
	}
	isOK(t, e.Hub().Leave(0))
	all(t, e, command.Mark{Key: key(a)})
	joins(5, 16, key(b))
	all(t, e, link(0, key(), key(a)), block(over(3, 3, 1, "d", b)))
	if first.Len() != 0 || second.Len() != 1 {
		t.Errorf("P24.5: %d, %d wait", first.Len(), second.Len())
	}
	if e = opened(t, "P24.3", d, roomy(), e.State()); len(e.Hub().Numbers()) != 0 {
		t.Errorf("P24.1: feeds of a new engine: %v", e.Hub().Numbers())
	}
	joins(5, 0, e.State().Head().Key())
}
