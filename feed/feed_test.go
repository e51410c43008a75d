package feed

import (
	"math"
	"math/rand"
	"slices"
	"strings"
	"testing"
	"unsafe"

	"coxswain/api"
	"coxswain/dag"
	"coxswain/header"
	"coxswain/path"
	"coxswain/tipset"
)

// tree is a dag, and its ways.
type tree struct {
	t *testing.T
	d *dag.Dag
	p *path.Paths
}

// plant answers a tree of the genesis alone.
func plant(t *testing.T) tree {
	d := dag.New()
	return tree{t: t, d: d, p: path.New(d, 3)}
}

// over grows a block for each miner, on a tipset, and answers them as one.
func (x tree) over(on tipset.Tipset, height int, miners ...int) tipset.Tipset {
	x.t.Helper()
	var names []api.ID
	for _, miner := range miners {
		h := header.Header{Height: height, Miner: miner, Ticket: "t", Wins: 1, Power: 2}
		h.Parents, _ = header.Names(on.Key())
		if e := x.d.Add(h); e != api.OK && e != api.ErrHave {
			x.t.Fatalf("Add: %d", e)
		}
		names = append(names, h.ID())
	}
	t, e := x.d.Tipset(header.Key(names...))
	if e != api.OK {
		x.t.Fatalf("Tipset: %d", e)
	}
	return t
}

// chain grows n tipsets of one miner, each on the one ahead of it, and answers
// on, and these.
func (x tree) chain(on tipset.Tipset, miner, n int) []tipset.Tipset {
	x.t.Helper()
	l := []tipset.Tipset{on}
	for i := range n {
		l = append(l, x.over(l[i], l[i].Height()+1, miner))
	}
	return l
}

// ways answers the key of a tipset's parents.
func (x tree) ways(key string) string {
	t, _ := x.d.Tipset(key)
	return t.Parents()
}

// revert, apply and lagged answer events, field by field.
func revert(t tipset.Tipset) Event { return Event{Kind: 1, Key: t.Key(), Height: t.Height()} }
func apply(t tipset.Tipset) Event  { return Event{Kind: 2, Key: t.Key(), Height: t.Height()} }
func lagged(t tipset.Tipset) Event { return Event{Kind: 3, Key: t.Key(), Height: t.Height()} }

// pushes has a feed be told of a move that is to be answered so.
func pushes(t *testing.T, f *Feed, x tree, from, to tipset.Tipset, want bool) {
	t.Helper()
	if ok := f.Push(x.p, from, to); ok != want {
		t.Errorf("P23.1: Push from %d to %d: %t", from.Height(), to.Height(), ok)
	}
}

// waits tells of a feed where other events wait, and takes them.
func waits(t *testing.T, f *Feed, want ...Event) {
	t.Helper()
	n := f.Len()
	if l := f.Take(len(want) + 9); n != len(want) || !slices.Equal(l, want) || f.Len() != 0 {
		t.Errorf("P23.1: %d wait: %v, wanted %v; behind that %d", n, l, want, f.Len())
	}
}

// P23.1: a new feed, and the head that it was made with, whatever is told.
func TestNew(t *testing.T) {
	x := plant(t)
	a := x.over(tipset.Genesis(), 1, 1)
	b := x.over(a, 2, 1, 2)
	f := New(5, a)
	starts := func() {
		t.Helper()
		if s := f.Start(); s.Key() != a.Key() || s.Height() != 1 {
			t.Errorf("P23.1: Start: %v", s)
		}
	}
	starts()
	if f.Len() != 0 || len(f.Take(9)) != 0 {
		t.Errorf("P23.1: %d wait in a new feed", f.Len())
	}
	pushes(t, f, x, a, b, true)
	starts()
	waits(t, f, apply(b))
	starts()
	if !New(1, tipset.Tipset{}).Start().Zero() {
		t.Error("P23.1: Start of a zero head")
	}
}

// P23.1: the chapter's example; the kinds are 1, 2 and 3.
func TestExample(t *testing.T) {
	x := plant(t)
	c := x.chain(tipset.Genesis(), 1, 2)
	f := New(1, c[0])
	pushes(t, f, x, c[0], c[2], false)
	waits(t, f, Event{Kind: 3, Key: c[2].Key(), Height: 2})
	if Revert != 1 || Apply != 2 || Lagged != 3 {
		t.Errorf("P23.1: kinds %d, %d, %d", Revert, Apply, Lagged)
	}
}

// P23.1: how many events a feed is of: from 1 to 64, of others the nearest. A
// move that is just as long as there is room for, and one event more.
func TestMost(t *testing.T) {
	x := plant(t)
	c := x.chain(tipset.Genesis(), 1, 70)
	for _, l := range [][2]int{{1, 1}, {2, 2}, {63, 63}, {64, 64}, {65, 64}, {math.MaxInt, 64}, {0, 1}, {-1, 1}, {math.MinInt, 1}} {
		most := l[1]
		f := New(l[0], c[0])
		pushes(t, f, x, c[0], c[most], true) // at once
		if f.Len() != most {
			t.Errorf("P23.1: New(%d): %d wait", l[0], f.Len())
		}
		pushes(t, f, x, c[most], c[most+1], false)
		waits(t, f, lagged(c[most+1]))
		pushes(t, f, x, c[0], c[most+1], false)
		waits(t, f, lagged(c[most+1]))
		for i := range most { // one by one
			pushes(t, f, x, c[i], c[i+1], true)
		}
		if f.Len() != most {
			t.Errorf("P23.1: New(%d): %d wait", l[0], f.Len())
		}
		f.Take(1)
		pushes(t, f, x, c[most], c[most+1], true) // there is room again
		pushes(t, f, x, c[most+1], c[most+2], false)
		waits(t, f, lagged(c[most+2]))
	}
}

// P23.3: tipsets are left by falling heights, then others are come to by rising
// ones; the common one is in neither.
func TestOrder(t *testing.T) {
	x := plant(t)
	g := tipset.Genesis()
	a := x.over(g, 1, 1)
	b, bc := x.over(a, 4, 1), x.over(a, 4, 1, 2)
	d := x.over(b, 9, 3)
	e := x.over(bc, 5, 3)
	h := x.over(e, 7, 3, 4, 5)
	k := x.over(g, 8, 6)
	for _, m := range []struct {
		from, to tipset.Tipset
		want     []Event
	}{
		{d, h, []Event{revert(d), revert(b), apply(bc), apply(e), apply(h)}},
		{h, d, []Event{revert(h), revert(e), revert(bc), apply(b), apply(d)}},
		{b, bc, []Event{revert(b), apply(bc)}}, // one gains a block
		{h, k, []Event{revert(h), revert(e), revert(bc), revert(a), apply(k)}},
		{k, a, []Event{revert(k), apply(a)}},
		{h, a, []Event{revert(h), revert(e), revert(bc)}},
		{a, h, []Event{apply(bc), apply(e), apply(h)}},
		{d, g, []Event{revert(d), revert(b), revert(a)}},
		{g, d, []Event{apply(a), apply(b), apply(d)}},
		{e, h, []Event{apply(h)}},
		{h, e, []Event{revert(h)}},
	} {
		f := New(64, g)
		pushes(t, f, x, m.from, m.to, true)
		l := f.Take(64)
		if !slices.Equal(l, m.want) {
			t.Errorf("P23.3: from %d to %d: %v, wanted %v", m.from.Height(), m.to.Height(), l, m.want)
		}
		if at, ok := Fold(x.ways, m.from.Key(), l); !ok || at != m.to.Key() {
			t.Errorf("P23.2: from %d to %d: %x, %t", m.from.Height(), m.to.Height(), at, ok)
		}
	}
}

// P23.1: of a move of alike tipsets nothing is told, where there is room and
// where there is none.
func TestAlike(t *testing.T) {
	x := plant(t)
	c := x.chain(tipset.Genesis(), 1, 3)
	f := New(2, c[0])
	pushes(t, f, x, c[0], c[0], true)
	pushes(t, f, x, c[3], c[3], true)
	waits(t, f)
	pushes(t, f, x, c[0], c[2], true)
	pushes(t, f, x, c[2], c[2], true)
	again, _ := x.d.Tipset(c[2].Key())
	pushes(t, f, x, c[2], again, true)
	waits(t, f, apply(c[1]), apply(c[2]))
	pushes(t, f, x, c[0], c[3], false)
	pushes(t, f, x, c[3], c[3], true)
	waits(t, f, lagged(c[3]))
}

// P23.1: a Lagged behind a Lagged, and events behind one.
func TestLagged(t *testing.T) {
	x := plant(t)
	c := x.chain(tipset.Genesis(), 1, 9)
	k := x.over(c[1], 2, 2)
	f := New(3, c[0])
	pushes(t, f, x, c[0], c[4], false)
	pushes(t, f, x, c[4], c[8], false) // it goes, too
	if f.Len() != 1 {
		t.Errorf("P23.1: %d wait", f.Len())
	}
	pushes(t, f, x, c[8], c[7], true)
	pushes(t, f, x, c[7], c[6], true)
	waits(t, f, lagged(c[8]), revert(c[8]), revert(c[7]))
	pushes(t, f, x, c[0], c[3], true)
	pushes(t, f, x, c[3], k, false) // three more, and three wait
	pushes(t, f, x, k, c[2], true)
	pushes(t, f, x, c[2], c[3], false)
	waits(t, f, lagged(c[3]))
	one := New(1, c[0])
	pushes(t, one, x, c[0], c[1], true)
	pushes(t, one, x, c[1], c[2], false)
	pushes(t, one, x, c[2], c[1], false)
	waits(t, one, lagged(c[1]))
	pushes(t, one, x, c[1], c[2], true)
	waits(t, one, apply(c[2]))
}

// P23.1: Take of none, of fewer than wait, of as many, of more, and below 0.
func TestTake(t *testing.T) {
	x := plant(t)
	c := x.chain(tipset.Genesis(), 1, 6)
	f := New(64, c[0])
	pushes(t, f, x, c[0], c[6], true)
	left := 6
	takes := func(n int, want ...Event) {
		t.Helper()
		left -= len(want)
		if l := f.Take(n); !slices.Equal(l, want) || f.Len() != left {
			t.Errorf("P23.1: Take(%d): %v, wanted %v; %d wait", n, l, want, f.Len())
		}
	}
	takes(0)
	takes(-1)
	takes(math.MinInt)
	takes(1, apply(c[1]))
	takes(2, apply(c[2]), apply(c[3]))
	takes(0)
	pushes(t, f, x, c[6], c[5], true)
	left++
	takes(2, apply(c[4]), apply(c[5]))
	takes(3, apply(c[6]), revert(c[6]))
	takes(1)
	takes(math.MaxInt)
	pushes(t, f, x, c[5], c[6], true)
	left++
	takes(math.MaxInt, apply(c[6]))
	pushes(t, f, x, c[0], c[2], true)
	left += 2
	takes(2, apply(c[1]), apply(c[2]))
	takes(-7)
}

// P23.1, P7: which events fit behind one another, and which ones don't.
func TestFold(t *testing.T) {
	x := plant(t)
	g := tipset.Genesis()
	a, b := x.over(g, 1, 1), x.over(g, 1, 2)
	c := x.over(a, 2, 1)
	for i, m := range []struct {
		from tipset.Tipset
		l    []Event
		want tipset.Tipset // a zero one: one doesn't fit
	}{
		{a, nil, a},
		{a, []Event{}, a},
		{g, []Event{apply(a)}, a},
		{g, []Event{apply(a), apply(c)}, c},
		{c, []Event{revert(c), revert(a), apply(b)}, b},
		{c, []Event{lagged(b)}, b},
		{c, []Event{lagged(c)}, c},
		{c, []Event{lagged(g), apply(a)}, a},
		{a, []Event{revert(a), lagged(c), revert(c)}, a},
		{a, []Event{{Kind: Revert, Key: a.Key(), Height: -5}, {Kind: Apply, Key: b.Key(), Height: 99}}, b}, // heights aren't asked for
		{a, []Event{revert(b)}, tipset.Tipset{}},                                                           // beside the head
		{a, []Event{revert(c)}, tipset.Tipset{}},                                                           // above it
		{c, []Event{revert(a)}, tipset.Tipset{}},                                                           // behind it
		{g, []Event{apply(c)}, tipset.Tipset{}},                                                            // its parents aren't the head, but above it
		{b, []Event{apply(c)}, tipset.Tipset{}},                                                            // beside it
		{a, []Event{apply(a)}, tipset.Tipset{}},                                                            // it is that already
		{a, []Event{apply(b)}, tipset.Tipset{}},                                                            // its parents are behind it
		{a, []Event{{Kind: 0, Key: a.Key()}}, tipset.Tipset{}},                                             // no kind
		{a, []Event{{Kind: 4, Key: c.Key()}}, tipset.Tipset{}},                                             // none, either
		{a, []Event{{Kind: -1, Key: a.Key()}}, tipset.Tipset{}},                                            //
		{a, []Event{{}}, tipset.Tipset{}},                                                                  //
		{g, []Event{apply(a), apply(a), lagged(c)}, tipset.Tipset{}},                                       // the second one, though the last one would
		{g, []Event{apply(a), revert(c), lagged(c)}, tipset.Tipset{}},                                      //
		{g, []Event{lagged(a), apply(c), apply(b)}, tipset.Tipset{}},                                       // the last one
		{g, []Event{apply(b), apply(c), revert(c)}, tipset.Tipset{}},                                       //
	} {
		if key, ok := Fold(x.ways, m.from.Key(), m.l); key != m.want.Key() || ok != !m.want.Zero() {
			t.Errorf("P23.1: Fold %d: %x, %t", i, key, ok)
		}
	}
}

// P23.1: Fold of any words, by other ways than a dag's.
func TestFoldWords(t *testing.T) {
	ways := func(key string) string { return key[:max(len(key)-1, 0)] }
	for _, m := range []struct {
		head string
		l    []Event
		want string
		ok   bool
	}{
		{"", nil, "", true},
		{"ab", nil, "ab", true},
		{"ab", []Event{{Kind: Revert, Key: "ab"}, {Kind: Revert, Key: "a"}}, "", true},
		{"", []Event{{Kind: Apply, Key: "x"}, {Kind: Apply, Key: "xy"}}, "xy", true},
		{"ab", []Event{{Kind: Lagged}}, "", true},
		{"ab", []Event{{Kind: Apply, Key: "ac"}}, "", false},
		{"ab", []Event{{Kind: Revert, Key: "a"}}, "", false},
	} {
		if key, ok := Fold(ways, m.head, m.l); key != m.want || ok != m.ok {
			t.Errorf("P23.1: Fold from %q of %v: %q, %t", m.head, m.l, key, ok)
		}
	}
}

// P1: Fold doesn't panic, if ways does, or if there are none.
func TestFoldPanics(t *testing.T) {
	panics := func(string) string { panic("no") }
	l := []Event{{Kind: Lagged, Key: "b"}, {Kind: Apply, Key: "c"}}
	for _, ways := range []func(string) string{panics, nil} {
		if key, ok := Fold(ways, "a", l); key != "" || ok {
			t.Errorf("P1: %q, %t", key, ok)
		}
		if key, ok := Fold(ways, "a", l[:1]); key != "b" || !ok { // ways isn't asked
			t.Errorf("P1: %q, %t", key, ok)
		}
		if key, ok := Fold(ways, "c", []Event{{Kind: Revert, Key: "c"}}); key != "" || ok {
			t.Errorf("P1: %q, %t", key, ok)
		}
		if key, ok := Fold(ways, "c", []Event{{Kind: Revert, Key: "d"}}); key != "" || ok {
			t.Errorf("P1: %q, %t", key, ok)
		}
	}
}

// P1: of tipsets that aren't the dag's nothing is promised, but that each call
// ends, and none panics.
func TestStrange(t *testing.T) {
	x, other := plant(t), plant(t)
	a, far := x.over(tipset.Genesis(), 1, 1), other.over(tipset.Genesis(), 3, 2)
	farther := other.over(far, 4, 2)
	all := []tipset.Tipset{{}, tipset.Genesis(), a, far, farther}
	for _, from := range all {
		for _, to := range all {
			f := New(1, from)
			f.Push(x.p, from, to)
			if f.Len() > 1 {
				t.Errorf("P1: %d wait", f.Len())
			}
		}
	}
}

// joins has a feed be made that is to be of that number.
func joins(t *testing.T, h *Hub, want int) {
	t.Helper()
	if id, e := h.Join(3, tipset.Genesis()); id != want || e != api.OK {
		t.Errorf("P23.1: Join: %d, %d, wanted %d", id, e, want)
	}
}

// numbers tells of a hub that has feeds of other numbers.
func numbers(t *testing.T, h *Hub, want ...int) {
	t.Helper()
	if l := h.Numbers(); !slices.Equal(l, want) {
		t.Errorf("P23.1: Numbers: %v, wanted %v", l, want)
	}
	for id := -2; id < 60; id++ {
		f, is := h.Feed(id)
		if is != slices.Contains(want, id) || (f != nil) != is {
			t.Errorf("P23.1: Feed(%d): %v, %t", id, f, is)
		}
	}
}

// P23.1: sixteen feeds, and a seventeenth; who left, and left again; no number
// is met twice.
func TestHub(t *testing.T) {
	h := NewHub()
	numbers(t, h)
	leaves := func(id int, want api.Errno) {
		t.Helper()
		if e := h.Leave(id); e != want {
			t.Errorf("P23.1: Leave(%d): %d, wanted %d", id, e, want)
		}
	}
	for _, id := range []int{0, -1, 1, math.MaxInt, math.MinInt} {
		leaves(id, api.ErrNone)
	}
	joins(t, h, 0)
	leaves(0, api.OK)
	leaves(0, api.ErrNone)
	numbers(t, h)
	var all []int
	for id := 1; id <= 16; id++ {
		joins(t, h, id)
		all = append(all, id)
		numbers(t, h, all...)
	}
	for range 3 {
		if id, e := h.Join(3, tipset.Genesis()); id != 0 || e != api.ErrBig {
			t.Errorf("P23.1: a seventeenth feed: %d, %d", id, e)
		}
	}
	numbers(t, h, all...)
	leaves(17, api.ErrNone) // no number was lost
	leaves(5, api.OK)
	leaves(5, api.ErrNone)
	leaves(16, api.OK)
	joins(t, h, 17)
	joins(t, h, 18)
	if _, e := h.Join(3, tipset.Genesis()); e != api.ErrBig {
		t.Errorf("P23.1: a seventeenth feed: %d", e)
	}
	numbers(t, h, 1, 2, 3, 4, 6, 7, 8, 9, 10, 11, 12, 13, 14, 15, 17, 18)
	for _, id := range h.Numbers() {
		leaves(id, api.OK)
	}
	numbers(t, h)
	joins(t, h, 19)
	numbers(t, h, 19)
}

// P23.1: all feeds of a hub are told each move, each with its own room; who
// left is told nothing more; without feeds nobody is.
func TestMove(t *testing.T) {
	x := plant(t)
	c := x.chain(tipset.Genesis(), 1, 12)
	h := NewHub()
	h.Move(x.p, c[0], c[1])
	numbers(t, h)
	var all []*Feed
	for i := range 16 {
		id, _ := h.Join(i+1, c[i/2])
		f, is := h.Feed(id)
		if !is || f.Len() != 0 || f.Start().Key() != c[i/2].Key() {
			t.Fatalf("P23.1: feed %d: %v, %t", id, f, is)
		}
		all = append(all, f)
	}
	NewHub().Move(x.p, c[0], c[9]) // another hub's
	h.Move(x.p, c[0], c[3])
	h.Move(x.p, c[3], c[2])
	waits(t, all[0], lagged(c[2]))
	waits(t, all[1], lagged(c[3]), revert(c[3]))
	waits(t, all[2], lagged(c[2]))
	for _, f := range all[3:] {
		waits(t, f, apply(c[1]), apply(c[2]), apply(c[3]), revert(c[3]))
	}
	h.Leave(7)
	h.Move(x.p, c[2], c[2])
	h.Move(x.p, c[2], c[12])
	waits(t, all[7])
	for i, f := range all {
		switch {
		case i == 7:
		case i+1 < 10:
			waits(t, f, lagged(c[12]))
		default:
			waits(t, f, apply(c[3]), apply(c[4]), apply(c[5]), apply(c[6]), apply(c[7]), apply(c[8]), apply(c[9]), apply(c[10]), apply(c[11]), apply(c[12]))
		}
	}
}

// follower follows a feed: what it waits for by plain means, and where whoever
// takes the events is.
type follower struct {
	feed *Feed
	most int
	wait []Event
	at   string
}

// told has the plain queue be told of a move, step by step down and up.
func (f *follower) told(x tree, from, to tipset.Tipset) bool {
	var left, come []Event
	for from.Key() != to.Key() {
		if from.Height() >= to.Height() {
			left = append(left, revert(from))
			from, _ = x.d.Tipset(from.Parents())
		} else {
			come = append(come, apply(to))
			to, _ = x.d.Tipset(to.Parents())
		}
	}
	slices.Reverse(come)
	f.wait = append(f.wait, append(left, come...)...)
	return len(f.wait) <= f.most
}

// P23.1 to P23.3, P5: any moves over any tree, and any takes: the events are
// those of a plain queue, and who follows them is where the head is.
func TestAny(t *testing.T) {
	lags := 0
	for seed := range int64(150) {
		r := rand.New(rand.NewSource(seed))
		x := plant(t)
		all := []tipset.Tipset{tipset.Genesis()}
		grow := func() {
			on := all[r.Intn(len(all))]
			miners := []int{r.Intn(3), 3 + r.Intn(3)}[:1+r.Intn(2)]
			all = append(all, x.over(on, on.Height()+1+r.Intn(3), miners...))
		}
		for range 5 + r.Intn(30) {
			grow()
		}
		head := all[r.Intn(len(all))]
		h := NewHub()
		var l []*follower
		for i := range 6 {
			most := []int{1, 2, 3, 5, 9, 64}[i]
			id, _ := h.Join(most, head)
			f, _ := h.Feed(id)
			l = append(l, &follower{feed: f, most: most, at: f.Start().Key()})
		}
		for range 60 {
			grow()
			to := all[r.Intn(len(all))]
			h.Move(x.p, head, to)
			for _, f := range l {
				if !f.told(x, head, to) {
					f.wait = []Event{lagged(to)}
					lags++
				}
				n := r.Intn(5)
				if f.feed.Len() != len(f.wait) {
					t.Fatalf("P23.1: seed %d: %d wait, wanted %d", seed, f.feed.Len(), len(f.wait))
				}
				taken := f.feed.Take(n)
				if n = min(n, len(f.wait)); !slices.Equal(taken, f.wait[:n]) {
					t.Fatalf("P23.1: seed %d: %v, wanted %v", seed, taken, f.wait[:n])
				}
				f.wait = f.wait[n:]
				f.follow(t, x, taken)
				if f.feed.Len() == 0 && f.at != to.Key() {
					t.Fatalf("P23.2: seed %d: who follows is elsewhere", seed)
				}
			}
			head = to
		}
		for _, f := range l {
			f.follow(t, x, f.feed.Take(f.feed.Len()))
			if f.at != head.Key() {
				t.Fatalf("P23.2: seed %d: who follows is elsewhere", seed)
			}
		}
	}
	if lags == 0 {
		t.Error("no feed lagged")
	}
}

// follow has whoever is somewhere follow events.
func (f *follower) follow(t *testing.T, x tree, l []Event) {
	t.Helper()
	at, ok := Fold(x.ways, f.at, l)
	if !ok {
		t.Fatalf("P23.2: %v don't fit behind %x", l, f.at)
	}
	f.at = at
}

// P23.1: a feed of a hub is like one alone.
func TestPushToOne(t *testing.T) {
	x := plant(t)
	c := x.chain(tipset.Genesis(), 1, 3)
	h := NewHub()
	joins(t, h, 0)
	joins(t, h, 1)
	f, _ := h.Feed(0)
	pushes(t, f, x, c[0], c[2], true)
	other, _ := h.Feed(1)
	waits(t, other)
	again, _ := h.Feed(0)
	waits(t, again, apply(c[1]), apply(c[2]))
}

// Rule 5: nothing that is answered shares memory with a feed, or another
// answer; nothing that is handed in is changed.
func TestMemory(t *testing.T) {
	x := plant(t)
	c := x.chain(tipset.Genesis(), 1, 6)
	f := New(64, c[0])
	pushes(t, f, x, c[0], c[4], true)
	l := f.Take(2)
	l = append(l, Event{Kind: 9}, Event{Kind: 9}) // into its spare room, if it has some
	l[0], l[1] = Event{Kind: 8}, Event{Kind: 8}
	pushes(t, f, x, c[4], c[6], true)
	if l[2].Kind != 9 || l[3].Kind != 9 {
		t.Errorf("rule 5: %v", l)
	}
	waits(t, f, apply(c[3]), apply(c[4]), apply(c[5]), apply(c[6]))
	events := []Event{apply(c[1]), apply(c[2]), {Kind: 7}}
	before := slices.Clone(events)
	key, _ := Fold(x.ways, c[0].Key(), events[:2])
	if !slices.Equal(events, before) || unsafe.StringData(key) == unsafe.StringData(events[1].Key) {
		t.Errorf("rule 5: Fold: %v", events)
	}
	head := strings.Clone(c[0].Key())
	if key, _ := Fold(x.ways, head, nil); unsafe.StringData(key) == unsafe.StringData(head) {
		t.Error("rule 5: Fold answers what was handed in")
	}
	h := NewHub()
	joins(t, h, 0)
	joins(t, h, 1)
	n := h.Numbers()
	n[0], n[1] = 7, 9
	numbers(t, h, 0, 1)
	h.Move(x.p, c[0], c[1])
	a, _ := h.Feed(0)
	b, _ := h.Feed(1)
	one, two := a.Take(1), b.Take(1)
	if unsafe.StringData(one[0].Key) == unsafe.StringData(two[0].Key) {
		t.Error("rule 5: two feeds share a key")
	}
}
