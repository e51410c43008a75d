package engine

import (
	"math/rand"
	"reflect"
	"slices"
	"testing"

	"coxswain/api"
	"coxswain/cert"
	"coxswain/command"
	"coxswain/disk"
	"coxswain/feed"
	"coxswain/header"
	"coxswain/journal"
	"coxswain/snap"
	"coxswain/state"
	"coxswain/table"
	"coxswain/tipset"
)

// source is where any commands come from, over the headers that it made.
type source struct {
	r *rand.Rand
	l []header.Header
}

// tipset answers one or two headers that may stand beside one another; none:
// the genesis.
func (x *source) tipset() []header.Header {
	if len(x.l) == 0 || x.r.Intn(6) == 0 {
		return nil
	}
	last := min(len(x.l), 1+x.r.Intn(12))
	h := x.l[len(x.l)-last]
	for _, other := range x.l {
		if other.Family() == h.Family() && other.Miner != h.Miner && x.r.Intn(3) == 0 {
			return []header.Header{h, other}
		}
	}
	return []header.Header{h}
}

// header answers a new header, which mostly may come in.
func (x *source) header() header.Header {
	parents := x.tipset()
	height := 1 + x.r.Intn(20)/12 - x.r.Intn(20)/19
	if len(parents) > 0 {
		height += parents[0].Height
	}
	h := over(max(height, 1), x.r.Intn(6), 1+x.r.Intn(4), string(rune('a'+x.r.Intn(3))), parents...)
	x.l = append(x.l, h)
	return h
}

// cert answers a certificate, which often may be accepted.
func (x *source) cert(s *state.State) cert.Cert {
	c := cert.Cert{Instance: s.Chain().Next() + x.r.Intn(12)/11, Base: s.Chain().Final(), Final: s.Head().Key()}
	if x.r.Intn(3) == 0 {
		c.Final = key(x.tipset()...)
	}
	for miner := range 3 {
		if x.r.Intn(20) > 0 {
			c.Signers = append(c.Signers, miner)
		}
	}
	return c
}

// command answers some command, which may be refused.
func (x *source) command(s *state.State) command.Command {
	switch n := x.r.Intn(40); {
	case n < 19:
		return block(x.header())
	case n < 22 && len(x.l) > 0:
		return block(x.l[x.r.Intn(len(x.l))])
	case n < 28:
		return clock(max(0, s.Clock()+x.r.Intn(5)-1))
	case n < 31:
		return command.Cert{Bytes: x.cert(s).Bytes(), Right: x.r.Intn(9) > 0}
	case n < 34:
		return command.Mark{Key: key(x.tipset()...)}
	case n < 36:
		return command.Unmark{}
	case n < 37:
		x.header() // that is told later, if ever
		return clock(s.Clock() + 1)
	case n < 38:
		return nil
	}
	return command.Block{Bytes: "?", Right: true}
}

// plain is what an engine is to be like: a state, one with what was broken off
// (nil: nothing was), how many bytes the log has, how many deeds there are till
// the disk is down (below 0: none ever will be), and whether it is.
type plain struct {
	s, broken        *state.State
	size, room, left int
	down             bool
}

// deeds does so many, if the disk lets them.
func (p *plain) deeds(n int) api.Errno {
	if p.left >= 0 && p.left < n {
		p.down = true
		return api.ErrDown
	}
	p.left = max(p.left-n, min(p.left, -1))
	return api.OK
}

// do does a command.
func (p *plain) do(c command.Command) state.Result {
	if p.down {
		return state.Result{Code: api.ErrDown}
	}
	next := p.s.Clone()
	r := next.Apply(c)
	if r.Code != api.OK {
		return r
	}
	need := journal.Cost(1 + len(command.Bytes(c)))
	if p.size+need > p.room {
		return state.Result{Code: api.ErrFull}
	}
	if e := p.deeds(2); e != api.OK {
		p.broken = next
		return state.Result{Code: e}
	}
	p.s, p.size = next, p.size+need
	return r
}

// compact makes the state all that there is.
func (p *plain) compact() api.Errno {
	need := journal.Cost(1 + len(snap.Save(p.s)))
	switch {
	case p.down:
		return api.ErrDown
	case p.size+need > p.room:
		return api.ErrFull
	}
	e := p.deeds(3)
	if e == api.OK {
		p.size = need
	}
	return e
}

// follower is who follows a feed: at which head.
type follower struct {
	feed *feed.Feed
	at   string
}

// ways answers what a state knows of parents.
func ways(s *state.State) func(string) string {
	return func(key string) string {
		t, _ := s.Dag().Tipset(key)
		return t.Parents()
	}
}

// follow has whoever follows take up to n events: where none is left, that is
// where the head is.
func (f *follower) follow(t *testing.T, e *Engine, n int) []feed.Event {
	t.Helper()
	l := f.feed.Take(n)
	at, ok := feed.Fold(ways(e.State()), f.at, l)
	if !ok {
		t.Fatalf("P24.5: %v don't fit", l)
	}
	f.at = at
	if f.feed.Len() == 0 && at != e.State().Head().Key() {
		t.Fatalf("P24.5: who follows %v is elsewhere", l)
	}
	return l
}

// follows answers who follows a new feed, of at most so many events.
func follows(t *testing.T, e *Engine, most int) *follower {
	t.Helper()
	id, wrong := e.Join(most)
	isOK(t, wrong)
	f, _ := e.Hub().Feed(id)
	return &follower{feed: f, at: f.Start().Key()}
}

// keeps tells of a Revert of what was final, or is, or is behind that; and of
// an order that isn't down, then up.
func keeps(t *testing.T, before, after *state.State, l []feed.Event) {
	t.Helper()
	kind, height := feed.Revert, 1<<40
	for _, x := range l {
		if x.Kind == feed.Lagged {
			return
		}
		left, e := after.Dag().Tipset(x.Key)
		if e != api.OK || left.Height() != x.Height || x.Kind < kind || x.Kind == kind && (x.Height < height) != (kind == feed.Revert) {
			t.Fatalf("P23.3: %v", l)
		}
		kind, height = x.Kind, x.Height
		for _, final := range []tipset.Tipset{before.Final(), after.Final()} {
			if x.Kind == feed.Revert && after.Paths().Descends(final, left) {
				t.Fatalf("P5: what is final at %d is left: %v", final.Height(), l)
			}
		}
	}
}

// P24.1 to P24.5, P1, P3 to P5, P7: any commands on disks of any room, with
// Compacts, halts, crashes and Opens between, held against plain means; who
// follows any feed is at the head.
func TestAny(t *testing.T) {
	ends := map[state.Result]int{}
	compacts := map[api.Errno]int{}
	events := map[int]int{}
	brought := map[bool]int{}
	for seed := range int64(150) {
		r := rand.New(rand.NewSource(seed))
		x := &source{r: r}
		some := func() int { return []int{0, 1, 3, 64}[r.Intn(4)] }
		c := state.Config{Delay: r.Intn(3), Orphans: some(), Holds: some(), Waits: some(), Cache: r.Intn(5)}
		for miner := range 3 {
			c.Table = append(c.Table, table.Entry{Miner: miner, Power: 1})
		}
		d := disk.New([]int{100, 1000, 4000, 1 << 20}[r.Intn(4)])
		p := &plain{s: come(t, c), room: d.Room(), left: -1}
		e := opened(t, "P24.1", d, c, p.s)
		watch, l := follows(t, e, 64), []*follower{}
		for range 120 {
			if r.Intn(12) == 0 && !p.down {
				p.left = r.Intn(9)
				d.Halt(p.left)
			}
			before, was := e.State(), tell(d)
			switch {
			case r.Intn(15) == 0:
				got, want := e.Compact(), p.compact()
				if got != want || want == api.ErrFull && !reflect.DeepEqual(tell(d), was) {
					t.Fatalf("P24.1: seed %d: Compact %d, wanted %d", seed, got, want)
				}
				compacts[got]++
			case r.Intn(20) == 0 || p.down && r.Intn(3) == 0:
				if p.down || r.Intn(2) == 0 {
					d.Crash(r.Intn(200))
					p.left = -1
				}
				var wrong api.Errno
				if e, wrong = Open(d, c); wrong != api.OK {
					t.Fatalf("P24.2: seed %d: Open: %d", seed, wrong)
				}
				if p.broken != nil {
					brought[snap.Same(e.State(), p.broken)]++
					if snap.Same(e.State(), p.broken) {
						p.s = p.broken
					}
				}
				p.down, p.broken = false, nil
				opened(t, "P24.3", d, c, p.s)
				p.size = e.Size()
				watch, l = follows(t, e, 64), nil
			default:
				told := x.command(p.s)
				got, want := e.Do(told), p.do(told)
				if got != want {
					t.Fatalf("P24.1: seed %d: %s: %v, wanted %v", seed, command.Name(told), got, want)
				}
				if got.Code != api.OK && got.Code != api.ErrDown && !reflect.DeepEqual(tell(d), was) {
					t.Fatalf("P24.4: seed %d: %s: %v, was %v", seed, command.Name(told), tell(d), was)
				}
				ends[got]++
			}
			has(t, "P24.1", e, p.s)
			if p.size != e.Size() && !p.down {
				t.Fatalf("P24.1: seed %d: Size %d, wanted %d", seed, e.Size(), p.size)
			}
			told := watch.follow(t, e, 64)
			if len(told) > 0 && before.Head().Key() == e.State().Head().Key() {
				t.Fatalf("P24.5: seed %d: %v, though the head is the same", seed, told)
			}
			keeps(t, before, e.State(), told)
			for _, x := range told {
				events[x.Kind]++
			}
			if len(l) < 14 && r.Intn(9) == 0 {
				l = append(l, follows(t, e, []int{0, 1, 2, 4, 9}[r.Intn(5)]))
			}
			for _, f := range l {
				for _, x := range f.follow(t, e, r.Intn(9)-3) {
					events[x.Kind]++
				}
			}
		}
	}
	for _, want := range []state.Result{
		{Status: state.In}, {Status: state.In, Moved: true}, {Status: state.Orphan}, {Status: state.Held}, {Status: state.Gone},
		{Status: state.Accepted}, {Status: state.Accepted, Moved: true}, {Status: state.Waits}, {Status: state.Set}, {Status: state.Set, Moved: true},
		{Code: api.ErrFull}, {Code: api.ErrDown}, {Code: api.ErrKind}, {Code: api.ErrVerdict}, {Code: api.ErrHave}, {Code: api.ErrClock}, {Code: api.ErrConflict},
	} {
		if ends[want] == 0 {
			t.Errorf("no command ended as %v", want)
		}
	}
	if compacts[api.OK] == 0 || compacts[api.ErrFull] == 0 || compacts[api.ErrDown] == 0 || brought[true] == 0 || brought[false] == 0 ||
		events[feed.Revert] == 0 || events[feed.Apply] == 0 || events[feed.Lagged] == 0 {
		t.Errorf("what was to be met wasn't: %v, %v, %v", compacts, brought, events)
	}
}

// P24.5, P5: a mark, the end of it, and a certificate force the head over to
// other ways, and back; feeds of any room are told.
func TestForced(t *testing.T) {
	d := disk.New(1 << 16)
	e := opened(t, "P24.1", d, roomy(), come(t, roomy()))
	a, b := over(1, 0, 1, "a"), over(1, 1, 9, "b")
	c, k := over(2, 2, 1, "c", a), over(2, 3, 9, "k", b)
	o := over(3, 4, 9, "o", k)
	var l []*follower
	for most := range 12 {
		l = append(l, follows(t, e, most))
	}
	moves := func(x command.Command, way ...feed.Event) {
		t.Helper()
		before := e.State()
		if r := e.Do(x); r.Code != api.OK || r.Moved != (len(way) > 0) {
			t.Fatalf("P24.1: %s: %v", command.Name(x), r)
		}
		for most, f := range l {
			told := f.follow(t, e, 99)
			keeps(t, before, e.State(), told)
			want := way
			if len(way) > max(most, 1) {
				head := e.State().Head()
				want = []feed.Event{{Kind: feed.Lagged, Key: head.Key(), Height: head.Height()}}
			}
			if !slices.Equal(told, want) {
				t.Fatalf("P24.5: %s, a feed of %d: %v, wanted %v", command.Name(x), most, told, want)
			}
		}
	}
	off := func(l ...header.Header) feed.Event {
		return feed.Event{Kind: feed.Revert, Key: key(l...), Height: l[0].Height}
	}
	on := func(l ...header.Header) feed.Event {
		return feed.Event{Kind: feed.Apply, Key: key(l...), Height: l[0].Height}
	}
	moves(clock(9))
	moves(block(a), on(a))
	moves(block(b), off(a), on(a, b)) // both stand beside one another
	moves(block(c), off(a, b), on(a), on(c))
	moves(block(k), off(c), off(a), on(b), on(k))
	moves(block(o), on(o))
	moves(command.Mark{Key: key(a)}, off(o), off(k), off(b), on(a), on(c))
	moves(command.Mark{Key: key(b)}, off(c), off(a), on(b), on(k), on(o))
	moves(command.Unmark{})
	moves(link(0, key(), key(a)), off(o), off(k), off(b), on(a), on(c))
	moves(link(1, key(a), key(a)))
	moves(block(over(4, 5, 15, "p", o))) // it weighs more, and never leads
	q, r := over(3, 6, 15, "q", c), over(2, 7, 15, "r", a)
	moves(block(q), on(q))
	moves(block(r))
	moves(block(over(2, 2, 9, "z", a))) // c counts no more; what stands on it does
	moves(link(2, key(a), key(r)), off(q), off(c), on(r))
	moves(block(over(3, 0, 1, "s", r)), on(over(3, 0, 1, "s", r)))
	e = opened(t, "P24.3", d, roomy(), e.State())
	if f := follows(t, e, 5); f.at != key(over(3, 0, 1, "s", r)) {
		t.Errorf("P24.5: a feed from %x on", f.at)
	}
}
