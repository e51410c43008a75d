package choice

import (
	"math"
	"math/rand"
	"reflect"
	"slices"
	"strings"
	"testing"

	"coxswain/api"
	"coxswain/dag"
	"coxswain/header"
	"coxswain/nat"
	"coxswain/path"
	"coxswain/tipset"
)

// grow makes a block of power 2 come in over the tipset of its parents, and
// answers its name.
func grow(t *testing.T, d *dag.Dag, height, miner, wins int, ticket string, parents ...api.ID) api.ID {
	t.Helper()
	h := header.Header{Height: height, Miner: miner, Ticket: ticket, Wins: wins, Power: 2}
	h.Parents, _ = header.Names(header.Key(parents...))
	if e := d.Add(h); e != api.OK {
		t.Fatalf("Add of %v: %d", h, e)
	}
	return h.ID()
}

// of answers the tipset of these blocks.
func of(t *testing.T, d *dag.Dag, l ...api.ID) tipset.Tipset {
	t.Helper()
	x, e := d.Tipset(header.Key(l...))
	if e != api.OK {
		t.Fatalf("Tipset of %x: %d", l, e)
	}
	return x
}

// tree is a dag of several ways; behind each name its ticket, and its wins:
//
//	root - a (m, 5) - b (k, 1)
//	                - c (p, 1)   where bc, which is both, stands beside them
//	                - e (k, 1)   at another height than b
//	     - f (h, 5) - g (z, 15)
//	     - i (m, 5)   as a, but of another miner
type tree struct {
	p                              *path.Paths
	root, a, b, c, bc, e, f, g, i  tipset.Tipset
	all                            []tipset.Tipset
	none                           tipset.Tipset
	light, middle, heavy, heaviest string // weights of a; of b, c and e; of bc; of g
}

// trees answers it, with the ways through it, which keep three weights.
func trees(t *testing.T) tree {
	t.Helper()
	d := dag.New()
	a := grow(t, d, 1, 1, 5, "m", header.Root())
	b, c := grow(t, d, 2, 1, 1, "k", a), grow(t, d, 2, 2, 1, "p", a)
	e := grow(t, d, 3, 1, 1, "k", a)
	f := grow(t, d, 1, 2, 5, "h", header.Root())
	g := grow(t, d, 2, 3, 15, "z", f)
	i := grow(t, d, 1, 3, 5, "m", header.Root())
	x := tree{
		p: path.New(d, 3), root: tipset.Genesis(), a: of(t, d, a), b: of(t, d, b), c: of(t, d, c), bc: of(t, d, b, c),
		e: of(t, d, e), f: of(t, d, f), g: of(t, d, g), i: of(t, d, i),
		light: "384", middle: "665", heavy: "691", heaviest: "1024",
	}
	x.all = []tipset.Tipset{x.root, x.a, x.b, x.c, x.bc, x.e, x.f, x.g, x.i}
	return x
}

// is tells whether both are the same tipset, in all that they have.
func is(a, b tipset.Tipset) bool { return reflect.DeepEqual(a, b) }

// are tells whether both lists have the same tipsets, in one order.
func are(a, b []tipset.Tipset) bool { return slices.EqualFunc(a, b, is) }

// list answers its arguments, with room behind them.
func list(l ...tipset.Tipset) []tipset.Tipset {
	return append(make([]tipset.Tipset, 0, len(l)+3), l...)
}

// told tells tipsets by their tickets and heights.
func told(l ...tipset.Tipset) string {
	var s []string
	for _, x := range l {
		s = append(s, x.Ticket()+"/"+string(rune('0'+x.Height())))
	}
	return strings.Join(s, " ")
}

// lesser answers the one of the lesser key, then the other one: plain means for
// tipsets of one ticket.
func lesser(a, b tipset.Tipset) (tipset.Tipset, tipset.Tipset) {
	if a.Key() < b.Key() {
		return a, b
	}
	return b, a
}

// orders calls f with each order of the list.
func orders(l []tipset.Tipset, f func(l []tipset.Tipset)) {
	var walk func(done, left []tipset.Tipset)
	walk = func(done, left []tipset.Tipset) {
		if len(left) == 0 {
			f(done)
			return
		}
		for i := range left {
			rest := slices.Delete(slices.Clone(left), i, i+1)
			walk(append(slices.Clone(done), left[i]), rest)
		}
	}
	walk(nil, l)
}

// P19.1: which ones descend from the floor, which is one itself, each key once,
// by tickets, then keys.
func TestEligible(t *testing.T) {
	x := trees(t)
	b, e := lesser(x.b, x.e)
	a, i := lesser(x.a, x.i)
	kBC, kB := x.bc, x.b // both of ticket k: which one is ahead their keys tell
	if kBC.Key() > kB.Key() {
		kBC, kB = kB, kBC
	}
	for n, c := range []struct {
		floor   tipset.Tipset
		l, want []tipset.Tipset
	}{
		{x.root, nil, list(x.root)}, {x.a, list(), list(x.a)}, {x.g, nil, list(x.g)}, {x.bc, nil, list(x.bc)},
		{x.a, list(x.a), list(x.a)}, {x.root, list(x.root, x.root), list(x.root)},
		{x.a, list(x.root, x.f, x.g, x.i), list(x.a)}, // behind it, beside it, on other ways
		{x.b, list(x.bc, x.c, x.e, x.a), list(x.b)},
		{x.bc, list(x.b, x.c), list(x.bc)},
		{x.a, list(x.c), list(x.a, x.c)}, {x.a, list(x.a, x.c), list(x.a, x.c)}, {x.a, list(x.c, x.a, x.f), list(x.a, x.c)},
		{x.root, list(x.g, x.c, x.f), list(x.root, x.f, x.c, x.g)},
		{x.a, list(x.c, x.e, x.b), list(b, e, x.a, x.c)},
		{x.root, list(x.i, x.a), list(x.root, a, i)},
		{x.a, list(x.c, x.c, x.a, x.c, x.g, x.g, x.a), list(x.a, x.c)},
		{x.a, list(x.b, x.bc, x.c, x.b, x.bc), list(kBC, kB, x.a, x.c)},
	} {
		if got := Eligible(x.p, c.floor, c.l); !are(got, c.want) {
			t.Errorf("P19.1: %d: Eligible: %s, want %s", n, told(got...), told(c.want...))
		}
	}
}

// P19.1, P19.2: which one is the Best of the chapter's cases, with nobody ahead.
func TestBest(t *testing.T) {
	x := trees(t)
	be, _ := lesser(x.b, x.e)
	ai, _ := lesser(x.a, x.i)
	for n, c := range []struct {
		name  string
		floor tipset.Tipset
		l     []tipset.Tipset
		want  tipset.Tipset
	}{
		{"no candidates, over the genesis", x.root, nil, x.root},
		{"no candidates", x.a, list(), x.a},
		{"the floor alone", x.a, list(x.a), x.a},
		{"the floor, again and again", x.a, list(x.a, x.a, x.a), x.a},
		{"none descends from the floor", x.b, list(x.a, x.root, x.g, x.bc, x.c, x.e), x.b},
		{"heavier ones don't", x.a, list(x.g, x.b), x.b},
		{"the floor is among them", x.a, list(x.a, x.c), x.c},
		{"the heaviest one, of the greatest ticket", x.root, list(x.a, x.b, x.bc, x.f, x.g, x.i), x.g},
		{"heavier, of one ticket", x.root, list(x.b, x.bc), x.bc},
		{"of one weight, unlike tickets", x.root, list(x.a, x.f), x.f},
		{"of one weight, unlike tickets, and a lighter one of a lesser ticket", x.root, list(x.f, x.c, x.e), x.e},
		{"of one weight, like tickets", x.root, list(x.a, x.i), ai},
		{"of one weight, like tickets, at unlike heights", x.root, list(x.b, x.e), be},
		{"of one weight, like tickets and unlike ones", x.root, list(x.c, x.b, x.e), be},
	} {
		if got := Best(x.p, c.floor, c.l, tipset.Tipset{}); !is(got, c.want) {
			t.Errorf("P19.2: %d: %s: Best: %s, want %s", n, c.name, told(got), told(c.want))
		}
	}
}

// P19.1, P19.2: what now does: it stays if it is one of the heaviest ones, and
// does nothing else.
func TestNow(t *testing.T) {
	x := trees(t)
	be, eb := lesser(x.b, x.e)
	ai, ia := lesser(x.a, x.i)
	middle := slices.Clip(list(x.a, x.b, x.c, x.e))
	for n, c := range []struct {
		name  string
		floor tipset.Tipset
		l     []tipset.Tipset
		now   tipset.Tipset
		want  tipset.Tipset
	}{
		{"zero", x.root, middle, x.none, be},
		{"the first one by Compare", x.root, middle, be, be},
		{"of the same ticket, and a greater key", x.root, middle, eb, eb},
		{"of a greater ticket", x.root, middle, x.c, x.c},
		{"of two of one ticket the one of the greater key", x.root, list(x.a, x.i), ia, ia},
		{"of two of one ticket the one of the lesser key", x.root, list(x.i, x.a), ai, ai},
		{"of two the one of the greater ticket", x.root, list(x.f, x.a), x.a, x.a},
		{"lighter, of a lesser ticket", x.root, append(middle, x.f), x.f, be},
		{"lighter, the floor", x.a, middle, x.a, be},
		{"lighter, the genesis", x.root, middle, x.root, be},
		{"heavier, but no candidate", x.root, middle, x.g, be},
		{"as heavy, but no candidate", x.root, list(x.b), x.c, x.b},
		{"heavier, but not eligible", x.a, append(middle, x.g), x.g, be},
		{"as heavy, but not eligible", x.e, list(x.b, x.c, x.e), x.c, x.e},
		{"of no candidates the floor", x.a, nil, x.a, x.a},
		{"of no candidates another one", x.a, nil, x.b, x.a},
		{"of no candidates zero", x.a, nil, x.none, x.a},
	} {
		if got := Best(x.p, c.floor, c.l, c.now); !is(got, c.want) {
			t.Errorf("P19.2: %d: %s: Best: %s, want %s", n, c.name, told(got), told(c.want))
		}
	}
}

// P19.1: the greatest weight, and those of it: of none, of one, of several, in
// their order, as often as they come.
func TestTop(t *testing.T) {
	x := trees(t)
	for n, c := range []struct {
		l      []tipset.Tipset
		weight string
		want   []tipset.Tipset
	}{
		{nil, "0", nil}, {list(), "0", nil},
		{list(x.root), "0", list(x.root)}, {list(x.root, x.root), "0", list(x.root, x.root)},
		{list(x.a), x.light, list(x.a)}, {list(x.g), x.heaviest, list(x.g)},
		{list(x.root, x.a), x.light, list(x.a)}, {list(x.a, x.root), x.light, list(x.a)},
		{list(x.a, x.b), x.middle, list(x.b)}, {list(x.b, x.a), x.middle, list(x.b)},
		{list(x.a, x.f), x.light, list(x.a, x.f)}, {list(x.f, x.a), x.light, list(x.f, x.a)},
		{list(x.e, x.a, x.b, x.root, x.c), x.middle, list(x.e, x.b, x.c)},
		{list(x.c, x.root, x.b, x.e, x.f), x.middle, list(x.c, x.b, x.e)},
		{list(x.b, x.c, x.bc, x.e), x.heavy, list(x.bc)},
		{list(x.c, x.b, x.c, x.a, x.c), x.middle, list(x.c, x.b, x.c, x.c)},
		{list(x.a, x.b, x.bc, x.g, x.bc, x.b, x.a), x.heaviest, list(x.g)},
		{list(x.g, x.a, x.g), x.heaviest, list(x.g, x.g)},
	} {
		weight, got := Top(x.p, c.l)
		if weight.Text() != c.weight || !are(got, c.want) {
			t.Errorf("P19.1: %d: Top: %s, %s; want %s, %s", n, weight.Text(), told(got...), c.weight, told(c.want...))
		}
		if len(c.l) == 0 && (got != nil || !reflect.DeepEqual(weight, nat.Nat{})) {
			t.Errorf("P19.1: %d: Top of none isn't zero", n)
		}
	}
}

// P19.3: in every order, and with each one twice, the Best, and the eligible
// ones, are the same; with it as now, too.
func TestOrders(t *testing.T) {
	x := trees(t)
	l := list(x.root, x.a, x.b, x.c, x.e, x.f)
	be, _ := lesser(x.b, x.e)
	eligible := Eligible(x.p, x.a, l)
	orders(l, func(l []tipset.Tipset) {
		for _, often := range [][]tipset.Tipset{l, append(slices.Clone(l), l...), append(slices.Clone(l), l[:2]...)} {
			if got := Best(x.p, x.root, often, tipset.Tipset{}); !is(got, be) || !is(Best(x.p, x.root, often, got), got) {
				t.Fatalf("P19.3: of %s: Best %s, want %s", told(often...), told(got), told(be))
			}
			if got := Best(x.p, x.root, often, x.c); !is(got, x.c) {
				t.Fatalf("P19.3: of %s: Best %s, not now", told(often...), told(got))
			}
			if got := Eligible(x.p, x.a, often); !are(got, eligible) {
				t.Fatalf("P19.3: of %s: Eligible %s, want %s", told(often...), told(got...), told(eligible...))
			}
		}
	})
}

// anyDag answers a dag of so many blocks beside the genesis block, and many of
// its tipsets, the genesis among them: heights, tickets and wins are such that
// there are many of one weight, and of one ticket.
func anyDag(t *testing.T, r *rand.Rand, blocks int) (*dag.Dag, []tipset.Tipset) {
	t.Helper()
	d := dag.New()
	l := []tipset.Tipset{tipset.Genesis()}
	for d.Len() <= blocks {
		parent := l[r.Intn(len(l))]
		parents, _ := header.Names(parent.Key())
		h := header.Header{
			Height: parent.Height() + 1 + r.Intn(2), Miner: r.Intn(4), Ticket: string(rune('a' + r.Intn(3))),
			Wins: 5 * (1 + r.Intn(2)), Power: 2, Parents: parents,
		}
		if d.Add(h) != api.OK {
			continue
		}
		l = append(l, of(t, d, h.ID()))
		for _, b := range d.Family(h.Family()) {
			if x, e := d.Tipset(header.Key(h.ID(), b.ID)); e == api.OK && b.ID != h.ID() {
				l = append(l, x)
			}
		}
	}
	return d, l
}

// descends tells by plain means whether floor is x, or behind it.
func descends(p *path.Paths, x, floor tipset.Tipset) bool {
	for there := true; there; x, there = p.Parent(x) {
		if is(x, floor) {
			return true
		}
	}
	return false
}

// some answers so many of a list, at hazard.
func some(r *rand.Rand, l []tipset.Tipset, n int) []tipset.Tipset {
	var got []tipset.Tipset
	for range n {
		got = append(got, l[r.Intn(len(l))])
	}
	return got
}

// checkEligible tells where Eligible isn't what plain means say of it.
func checkEligible(t *testing.T, p *path.Paths, floor tipset.Tipset, l, eligible []tipset.Tipset) {
	t.Helper()
	for _, x := range append(slices.Clone(l), floor) {
		if got := slices.ContainsFunc(eligible, func(y tipset.Tipset) bool { return is(x, y) }); got != descends(p, x, floor) {
			t.Fatalf("P19.1: %s over %s is eligible: %t", told(x), told(floor), got)
		}
	}
	for i, x := range eligible {
		if !slices.ContainsFunc(l, func(y tipset.Tipset) bool { return is(x, y) }) && !is(x, floor) {
			t.Fatalf("P19.1: %s is no candidate", told(x))
		}
		if i > 0 && tipset.Compare(eligible[i-1], x) >= 0 {
			t.Fatalf("P19.1: %s ahead of %s", told(eligible[i-1]), told(x))
		}
	}
}

// checkTop tells where Top isn't what plain means say of it, and answers it.
func checkTop(t *testing.T, p *path.Paths, l []tipset.Tipset) (nat.Nat, []tipset.Tipset) {
	t.Helper()
	weight, top := Top(p, l)
	var want []tipset.Tipset
	for _, x := range l {
		switch p.Weight(x).Cmp(weight) {
		case 0:
			want = append(want, x)
		case 1:
			t.Fatalf("P19.1: %s, but one weighs %s", weight.Text(), p.Weight(x).Text())
		}
	}
	if !are(top, want) || len(l) > 0 && len(top) == 0 {
		t.Fatalf("P19.1: Top: %s, want %s", told(top...), told(want...))
	}
	return weight, top
}

// P19.1 to P19.3, P2: of any candidates over any floor: the Best descends from
// the floor, nothing eligible weighs more, nothing as heavy has a lesser
// ticket, or key, unless it was the Best ahead; the order doesn't matter.
func TestAnyCandidates(t *testing.T) {
	stayed, equal, unlike := 0, 0, 0
	for seed := range int64(20) {
		r := rand.New(rand.NewSource(seed))
		d, all := anyDag(t, r, 40)
		p := path.New(d, 50)
		for range 60 {
			few := all[:1+r.Intn(len(all))] // of the first ones many weigh the same
			floor, l := few[r.Intn(1+r.Intn(len(few)))], some(r, few, r.Intn(30))
			eligible := Eligible(p, floor, l)
			checkEligible(t, p, floor, l, eligible)
			checkTop(t, p, l)
			_, top := checkTop(t, p, eligible)
			often := slices.Concat(all, eligible, l, some(r, top, len(all)), make([]tipset.Tipset, 9))
			now := often[r.Intn(len(often))]
			first, best := Best(p, floor, l, tipset.Tipset{}), Best(p, floor, l, now)
			if !is(first, top[0]) {
				t.Fatalf("P19.2: Best %s, want %s", told(first), told(top[0]))
			}
			led := slices.ContainsFunc(top, func(x tipset.Tipset) bool { return is(x, now) })
			if led && !is(best, now) || !led && !is(best, first) || !descends(p, best, floor) {
				t.Fatalf("P19.2: Best %s, now %s", told(best), told(now))
			}
			r.Shuffle(len(l), func(i, j int) { l[i], l[j] = l[j], l[i] })
			l = append(l, some(r, append(l, floor), 3)...)
			if !is(Best(p, floor, l, now), best) || !is(Best(p, floor, l, best), best) || !are(Eligible(p, floor, l), eligible) {
				t.Fatalf("P19.3: another Best than %s", told(best))
			}
			if led && !is(first, best) {
				stayed++
			}
			if len(top) > 1 && top[0].Ticket() == top[1].Ticket() {
				equal++
			}
			if len(top) > 1 && top[0].Ticket() != top[1].Ticket() {
				unlike++
			}
		}
	}
	if min(stayed, equal, unlike) < 10 {
		t.Errorf("%d stayed, %d of like tickets, %d of unlike ones", stayed, equal, unlike)
	}
}

// P19.1, P19.2: however few weights are kept, and in a dag that grows between
// the calls.
func TestGrows(t *testing.T) {
	for _, most := range []int{-1, 1, 2, 1000} {
		d := dag.New()
		p := path.New(d, most)
		id, l := header.Root(), list(tipset.Genesis())
		now := l[0]
		for height := 1; height < 40; height++ {
			id = grow(t, d, height, 1, 1, "m", id)
			side := grow(t, d, height, 2, 1, "a", header.Root())
			l = append(l, of(t, d, id), of(t, d, side))
			want := of(t, d, id)
			if height == 1 {
				want = of(t, d, side) // as heavy, and of a lesser ticket
			}
			now = Best(p, l[0], l, now)
			if !is(now, want) {
				t.Fatalf("P19.2: height %d: %s", height, told(now))
			}
		}
	}
}

// P19.1: no call changes its list, or the room behind it, or what was answered.
func TestMemory(t *testing.T) {
	x := trees(t)
	l := list(x.c, x.b, x.c, x.g, x.a)
	room := l[:cap(l)]
	kept := slices.Clone(room)
	one := Eligible(x.p, x.a, l)
	weight, top := Top(x.p, l[:3])
	best := Best(x.p, x.a, l, x.c)
	if !are(room, kept) {
		t.Fatal("P19.1: the list is changed")
	}
	want, few := Eligible(x.p, x.a, l), slices.Clone(top)
	for i := range one {
		one[i] = tipset.Tipset{}
	}
	one = append(one, x.g)
	if len(one) != 4 || !are(room, kept) || !are(Eligible(x.p, x.a, l), want) {
		t.Error("P19.1: Eligible shares memory")
	}
	l[0], l[1] = x.root, x.root
	if !are(top, few) || weight.Text() != x.middle || !is(best, x.c) {
		t.Error("P19.1: Top shares memory with the list")
	}
	l[0], l[1] = x.c, x.b
	top[0], top[1] = tipset.Tipset{}, tipset.Tipset{}
	top = append(top[:1], x.g, x.g)
	if len(top) != 3 || !are(room, kept) {
		t.Error("P19.1: the list shares memory with Top")
	}
	best.Blocks()[0].Header.Parents[0] = api.ID{9}
	if again, fresh := Best(x.p, x.a, l, x.c), trees(t); !is(again, fresh.c) || !are(fresh.all, x.all) {
		t.Error("P19.1: something is changed")
	}
}

// P1: also of tipsets that aren't the dag's, and of zero ones, each call ends.
func TestAnyTipsets(t *testing.T) {
	x := trees(t)
	odd := func(h header.Header) tipset.Tipset {
		y, _ := tipset.New(tipset.Make(h))
		return y
	}
	strange := []tipset.Tipset{
		{}, odd(header.Header{}), odd(header.Header{Height: -5, Wins: -5}), odd(header.Header{Height: math.MaxInt, Parents: make([]api.ID, 9)}),
		odd(header.Header{Height: math.MinInt}), odd(header.Header{Height: 3, Wins: math.MaxInt, Power: math.MaxUint64, Parents: []api.ID{{7}}}),
		odd(header.Header{Parents: []api.ID{x.g.Blocks()[0].ID}}),
	}
	all := append(slices.Clone(strange), x.all...)
	for _, floor := range all {
		for _, now := range all {
			for _, l := range [][]tipset.Tipset{nil, all, strange, {now}, {{}, {}}} {
				if len(Eligible(x.p, floor, l)) == 0 {
					t.Error("P1: the floor isn't eligible")
				}
				Best(x.p, floor, l, now)
			}
		}
	}
	Top(x.p, all)
	if got := Best(x.p, x.a, list(x.none, x.c, x.none), x.none); !is(got, x.c) {
		t.Errorf("P1: behind it: %s", told(got))
	}
}
