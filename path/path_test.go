package path

import (
	"math"
	"math/rand"
	"reflect"
	"slices"
	"testing"

	"coxswain/api"
	"coxswain/dag"
	"coxswain/gain"
	"coxswain/header"
	"coxswain/nat"
	"coxswain/tipset"
)

// grow makes a block come in over the tipset of its parents, and answers its
// name.
func grow(t *testing.T, d *dag.Dag, height, miner, wins int, power uint64, parents ...api.ID) api.ID {
	t.Helper()
	h := header.Header{Height: height, Miner: miner, Ticket: "t", Wins: wins, Power: power}
	h.Parents, _ = header.Names(header.Key(parents...))
	if e := d.Add(h); e != api.OK {
		t.Fatalf("Add of %v: %d", h, e)
	}
	return h.ID()
}

// of answers the tipset of these blocks.
func of(t *testing.T, d *dag.Dag, l ...api.ID) tipset.Tipset {
	t.Helper()
	x, e := d.Tipset(header.Key(l...))
	if e != api.OK {
		t.Fatalf("Tipset of %x: %d", l, e)
	}
	return x
}

// is tells whether both are the same tipset, in all that they have.
func is(a, b tipset.Tipset) bool { return reflect.DeepEqual(a, b) }

// are tells whether both lists have the same tipsets.
func are(a, b []tipset.Tipset) bool { return slices.EqualFunc(a, b, is) }

// tree is a dag of two ways, with heights between:
//
//	genesis - ab (1) - c (4) - f (9)
//	        - ag (1) - e (2) - h (9)
//
// where ab and ag share a block, a, and k is another block beside f.
type tree struct {
	d                          *dag.Dag
	root, a, ab, ag, c, e      tipset.Tipset
	f, k, fk, h, b, beside, up tipset.Tipset
}

// trees answers it; beside is of height 1, too, and up of the greatest height.
func trees(t *testing.T) tree {
	t.Helper()
	d := dag.New()
	root := header.Root()
	a, b, g := grow(t, d, 1, 1, 5, 2, root), grow(t, d, 1, 2, 1, 2, root), grow(t, d, 1, 3, 15, 2, root)
	beside := grow(t, d, 1, 4, 5, 3, root)
	c, e := grow(t, d, 4, 1, 5, 2, a, b), grow(t, d, 2, 3, 5, 2, a, g)
	f, k := grow(t, d, 9, 1, 5, 2, c), grow(t, d, 9, 2, 5, 2, c)
	h := grow(t, d, 9, 3, 1, 1<<62, e)
	up := grow(t, d, api.MaxHeight, 5, 5, 1<<20, f, k)
	return tree{
		d: d, root: tipset.Genesis(), a: of(t, d, a), b: of(t, d, b), ab: of(t, d, a, b), ag: of(t, d, a, g), c: of(t, d, c), e: of(t, d, e),
		f: of(t, d, f), k: of(t, d, k), fk: of(t, d, f, k), h: of(t, d, h), beside: of(t, d, beside), up: of(t, d, up),
	}
}

// P14.1: the tipset of the parents; of the genesis there is none.
func TestParent(t *testing.T) {
	x := trees(t)
	p := New(x.d, 10)
	for _, c := range []struct{ t, want tipset.Tipset }{
		{x.a, x.root}, {x.ab, x.root}, {x.ag, x.root}, {x.beside, x.root},
		{x.c, x.ab}, {x.e, x.ag}, {x.f, x.c}, {x.k, x.c}, {x.fk, x.c}, {x.h, x.e}, {x.up, x.fk},
	} {
		if parent, there := p.Parent(c.t); !there || !is(parent, c.want) {
			t.Errorf("P14.1: Parent of height %d: %v, %t", c.t.Height(), parent, there)
		}
	}
	if parent, there := p.Parent(x.root); there || !parent.Zero() {
		t.Errorf("P14.1: Parent of the genesis: %v, %t", parent, there)
	}
}

// P14.1: the genesis weighs 0; each other one what its parent does, and what it
// weighs more by its power, and by the wins of all its blocks.
func TestWeight(t *testing.T) {
	x := trees(t)
	p := New(x.d, 10)
	for i, c := range []struct {
		t    tipset.Tipset
		want string
	}{
		{x.root, "0"},
		{x.a, "384"},      // 256, and of 5 wins 128
		{x.b, "281"},      // 256, and of 1 win 25.6
		{x.ab, "409"},     // of 6 wins 153.6
		{x.ag, "768"},     // of 20 wins 512
		{x.beside, "607"}, // 405, and of 5 wins 202.5
		{x.c, "793"},      // 409, and 384
		{x.e, "1152"},     // 768, and 384
		{x.f, "1177"},     // 793, and 384
		{x.k, "1177"},
		{x.fk, "1305"}, // 793, and of 10 wins 512
		{x.h, "18611"}, // 1152, and 15872, and of 1 win 1587.2
		{x.up, "8985"}, // 1305, and 5120, and of 5 wins 2560
		{x.root, "0"},  // again, with what was kept
		{x.up, "8985"},
		{x.beside, "607"},
		{tipset.Genesis(), "0"},
	} {
		if w := p.Weight(c.t).Text(); w != c.want {
			t.Errorf("P14.1: %d: Weight %s, want %s", i, w, c.want)
		}
		if w := New(x.d, 1).Weight(c.t).Text(); w != c.want {
			t.Errorf("P14.1: %d: Weight, asked alone: %s, want %s", i, w, c.want)
		}
	}
}

// chain answers a dag of one chain of n tipsets, at unlike heights, and these,
// from the genesis on.
func chain(t *testing.T, n int) (*dag.Dag, []tipset.Tipset) {
	t.Helper()
	d := dag.New()
	l := []tipset.Tipset{tipset.Genesis()}
	id, height := header.Root(), 0
	for i := range n {
		height += 1 + i%3
		id = grow(t, d, height, i%64, 1+i%15, uint64(2+i%5), id)
		l = append(l, of(t, d, id))
	}
	return d, l
}

// P14.1, P14.2, P14.4: weights of a long chain, asked from above, from below,
// and from anywhere, whatever is kept.
func TestLongChain(t *testing.T) {
	d, l := chain(t, 3000)
	want := []nat.Nat{{}}
	for i, x := range l[1:] {
		want = append(want, gain.Sum(want[i], []gain.Step{{Power: x.Power(), Wins: x.Wins()}}))
	}
	last := len(l) - 1
	for _, most := range []int{-1, 0, 1, 2, 100, 1024, math.MaxInt} {
		p := New(d, most)
		for _, i := range []int{last, last, 0, 1, 2, last / 2, last - 1, last/2 + 1, last, 1} {
			if w := p.Weight(l[i]); w.Cmp(want[i]) != 0 {
				t.Errorf("P14.4: of at most %d: Weight of %d: %s, want %s", most, i, w.Text(), want[i].Text())
			}
		}
		for i := last; i > last-40; i-- {
			if w := p.Weight(l[i]); w.Cmp(want[i]) != 0 || w.Cmp(p.Weight(l[i-1])) <= 0 {
				t.Errorf("P14.2: of at most %d: Weight of %d: %s, want %s", most, i, w.Text(), want[i].Text())
			}
		}
	}
	p := New(d, 10)
	if left, come := p.Between(l[last], l[0]); len(come) != 0 || len(left) != last || !is(left[0], l[last]) || !is(left[last-1], l[1]) {
		t.Errorf("P14.3: from the end to the genesis: %d, %d", len(left), len(come))
	}
	if left, come := p.Between(l[7], l[last]); len(left) != 0 || !are(come, l[8:]) {
		t.Errorf("P14.3: on to the end: %d, %d", len(left), len(come))
	}
}

// P14.1: the weight of a chain so long that a call for each tipset would not do.
func TestVeryLongChain(t *testing.T) {
	d := dag.New()
	id := header.Root()
	const n = 60000
	for i := range n {
		id = grow(t, d, i+1, 1, 5, 2, id)
	}
	if w, small := New(d, 3).Weight(of(t, d, id)).Small(); w != 384*n || !small {
		t.Errorf("P14.1: Weight %d, %t", w, small)
	}
}

// P14.1: the highest one of at most a height: below 0 none is, between two the
// lower one, above the tipset's own itself.
func TestAt(t *testing.T) {
	x := trees(t)
	p := New(x.d, 10)
	for _, c := range []struct {
		t      tipset.Tipset
		height int
		want   tipset.Tipset
	}{
		{x.f, math.MinInt, tipset.Tipset{}}, {x.f, -1, tipset.Tipset{}},
		{x.f, 0, x.root}, {x.f, 1, x.ab}, {x.f, 2, x.ab}, {x.f, 3, x.ab}, {x.f, 4, x.c}, {x.f, 5, x.c}, {x.f, 8, x.c},
		{x.f, 9, x.f}, {x.f, 10, x.f}, {x.f, math.MaxInt, x.f},
		{x.h, 0, x.root}, {x.h, 1, x.ag}, {x.h, 2, x.e}, {x.h, 8, x.e}, {x.h, 9, x.h},
		{x.up, api.MaxHeight, x.up}, {x.up, api.MaxHeight - 1, x.fk}, {x.up, 8, x.c},
		{x.root, math.MinInt, tipset.Tipset{}}, {x.root, -1, tipset.Tipset{}}, {x.root, 0, x.root}, {x.root, 1, x.root}, {x.root, math.MaxInt, x.root},
		{x.a, -1, tipset.Tipset{}}, {x.a, 0, x.root}, {x.a, 1, x.a}, {x.a, 2, x.a},
	} {
		if got := p.At(c.t, c.height); !is(got, c.want) || got.Zero() != (c.height < 0) {
			t.Errorf("P14.1: At %d of height %d: height %d, want %d", c.height, c.t.Height(), got.Height(), c.want.Height())
		}
	}
}

// P14.1: which tipsets are behind which: of two of one height that share a
// block neither is, nor is one of a tipset's blocks alone.
func TestDescends(t *testing.T) {
	x := trees(t)
	p := New(x.d, 10)
	all := []tipset.Tipset{x.root, x.a, x.b, x.ab, x.ag, x.beside, x.c, x.e, x.f, x.k, x.fk, x.h, x.up}
	behind := map[string][]tipset.Tipset{
		x.root.Key(): {}, x.a.Key(): {x.root}, x.b.Key(): {x.root}, x.ab.Key(): {x.root}, x.ag.Key(): {x.root}, x.beside.Key(): {x.root},
		x.c.Key(): {x.ab, x.root}, x.e.Key(): {x.ag, x.root},
		x.f.Key(): {x.c, x.ab, x.root}, x.k.Key(): {x.c, x.ab, x.root}, x.fk.Key(): {x.c, x.ab, x.root},
		x.h.Key(): {x.e, x.ag, x.root}, x.up.Key(): {x.fk, x.c, x.ab, x.root},
	}
	descends := func(a, b tipset.Tipset) bool {
		return is(a, b) || slices.ContainsFunc(behind[a.Key()], func(y tipset.Tipset) bool { return is(y, b) })
	}
	for _, a := range all {
		for _, b := range all {
			want := descends(a, b)
			if got := p.Descends(a, b); got != want {
				t.Errorf("P14.1: Descends of heights %d, %d: %t", a.Height(), b.Height(), got)
			}
			either := want || descends(b, a)
			if p.OneChain(a, b) != either || p.OneChain(b, a) != either {
				t.Errorf("P14.1: OneChain of heights %d, %d: %t, %t", a.Height(), b.Height(), p.OneChain(a, b), p.OneChain(b, a))
			}
		}
		if !p.Descends(a, a) || !p.OneChain(a, a) || !p.Descends(a, x.root) {
			t.Errorf("P14.1: of height %d: itself, and the genesis", a.Height())
		}
	}
}

// P14.1: the highest one from which both descend.
func TestCommon(t *testing.T) {
	x := trees(t)
	p := New(x.d, 10)
	for i, c := range []struct{ a, b, want tipset.Tipset }{
		{x.root, x.root, x.root}, {x.f, x.f, x.f}, {x.up, x.up, x.up},
		{x.a, x.ab, x.root}, // they share a block
		{x.ab, x.ag, x.root},
		{x.ab, x.beside, x.root}, // they share none
		{x.f, x.k, x.c}, {x.f, x.fk, x.c}, {x.fk, x.k, x.c},
		{x.f, x.h, x.root}, {x.c, x.e, x.root}, {x.c, x.h, x.root}, {x.f, x.e, x.root},
		{x.f, x.c, x.c}, {x.f, x.ab, x.ab}, {x.f, x.a, x.root}, {x.f, x.root, x.root},
		{x.up, x.f, x.c}, {x.up, x.fk, x.fk}, {x.up, x.c, x.c}, {x.up, x.h, x.root},
	} {
		if got, back := p.Common(c.a, c.b), p.Common(c.b, c.a); !is(got, c.want) || !is(back, c.want) {
			t.Errorf("P14.1: %d: Common: heights %d, %d, want %d", i, got.Height(), back.Height(), c.want.Height())
		}
	}
}

// P14.1, P14.3: what is left, the highest first, and what is come to, the
// lowest first, in both directions.
func TestBetween(t *testing.T) {
	x := trees(t)
	p := New(x.d, 10)
	type ways = []tipset.Tipset
	for i, c := range []struct {
		from, to   tipset.Tipset
		left, come ways
	}{
		{x.root, x.root, nil, nil},
		{x.f, x.f, nil, nil},
		{x.a, x.ab, ways{x.a}, ways{x.ab}},
		{x.f, x.k, ways{x.f}, ways{x.k}},
		{x.f, x.c, ways{x.f}, nil},
		{x.up, x.root, ways{x.up, x.fk, x.c, x.ab}, nil},
		{x.up, x.ab, ways{x.up, x.fk, x.c}, nil},
		{x.up, x.f, ways{x.up, x.fk}, ways{x.f}},
		{x.f, x.h, ways{x.f, x.c, x.ab}, ways{x.ag, x.e, x.h}},
		{x.c, x.h, ways{x.c, x.ab}, ways{x.ag, x.e, x.h}},
		{x.beside, x.up, ways{x.beside}, ways{x.ab, x.c, x.fk, x.up}},
	} {
		left, come := p.Between(c.from, c.to)
		if !are(left, c.left) || !are(come, c.come) {
			t.Errorf("P14.1: %d: Between: %d, %d", i, len(left), len(come))
		}
		slices.Reverse(c.left)
		slices.Reverse(c.come)
		left, come = p.Between(c.to, c.from)
		if !are(left, c.come) || !are(come, c.left) {
			t.Errorf("P14.1: %d: Between, in the other direction: %d, %d", i, len(left), len(come))
		}
	}
}

// P14.1: a dag may grow behind New; what was answered stays so.
func TestGrows(t *testing.T) {
	d := dag.New()
	p := New(d, 2)
	root := tipset.Genesis()
	if w := p.Weight(root); !w.Zero() {
		t.Errorf("P14.1: Weight of the genesis: %s", w.Text())
	}
	a := grow(t, d, 1, 1, 5, 2, header.Root())
	first := of(t, d, a)
	if w := p.Weight(first).Text(); w != "384" || !p.Descends(first, root) {
		t.Errorf("P14.1: Weight %s", w)
	}
	b := grow(t, d, 1, 2, 5, 2, header.Root())
	both := of(t, d, a, b)
	if w := p.Weight(both).Text(); w != "512" || p.Weight(first).Text() != "384" || p.Descends(both, first) {
		t.Errorf("P14.1: Weight %s", w)
	}
	c := of(t, d, grow(t, d, 2, 1, 5, 2, a, b))
	if w := p.Weight(c).Text(); w != "896" || !p.Descends(c, both) || !is(p.Common(c, first), root) {
		t.Errorf("P14.1: Weight %s", w)
	}
	if parent, there := p.Parent(c); !there || !is(parent, both) {
		t.Errorf("P14.1: Parent: %v, %t", parent, there)
	}
}

// anyDag answers a dag of any ways, and tipsets of it, the genesis first.
func anyDag(t *testing.T, r *rand.Rand, blocks int) (*dag.Dag, []tipset.Tipset) {
	t.Helper()
	d := dag.New()
	l := []tipset.Tipset{tipset.Genesis()}
	for range blocks {
		parent := l[r.Intn(len(l))]
		if r.Intn(2) == 0 {
			parent = l[len(l)-1-r.Intn(min(len(l), 6))]
		}
		h := header.Header{Height: parent.Height() + 1 + r.Intn(3), Miner: r.Intn(6), Ticket: "t", Wins: 1 + r.Intn(15), Power: 2 + uint64(r.Intn(2))}
		h.Parents, _ = header.Names(parent.Key())
		if d.Add(h) != api.OK {
			continue
		}
		family := d.Family(h.Family())
		r.Shuffle(len(family), func(i, j int) { family[i], family[j] = family[j], family[i] })
		for n := 1; n <= len(family); n++ {
			if x, e := tipset.New(family[:n]...); e == api.OK && x.Has(h.ID()) {
				l = append(l, x)
			}
		}
	}
	return d, l
}

// way is a tipset and all behind it, the highest first, by plain means.
func way(t *testing.T, d *dag.Dag, x tipset.Tipset) []tipset.Tipset {
	t.Helper()
	l := []tipset.Tipset{x}
	for x.Height() > 0 {
		parents := x.Blocks()[0].Header.Parents
		x = of(t, d, parents...)
		l = append(l, x)
	}
	return l
}

// on tells where in a way a tipset stands, by its key.
func on(l []tipset.Tipset, x tipset.Tipset) int {
	return slices.IndexFunc(l, func(y tipset.Tipset) bool { return y.Key() == x.Key() })
}

// P14.1, P14.3: of any two tipsets of any dag what plain means tell; what is
// left and what is come to meet just at the Common one.
func TestAnyWays(t *testing.T) {
	for seed := range int64(6) {
		r := rand.New(rand.NewSource(seed))
		d, l := anyDag(t, r, 60)
		p := New(d, r.Intn(20)-1)
		for range 400 {
			a, b := l[r.Intn(len(l))], l[r.Intn(len(l))]
			up, down := way(t, d, a), way(t, d, b)
			if p.Descends(a, b) != (on(up, b) >= 0) || p.OneChain(a, b) != (on(up, b) >= 0 || on(down, a) >= 0) {
				t.Fatalf("P14.1: Descends %t, OneChain %t", p.Descends(a, b), p.OneChain(a, b))
			}
			meet := slices.IndexFunc(up, func(x tipset.Tipset) bool { return on(down, x) >= 0 })
			common := p.Common(a, b)
			if !is(common, up[meet]) {
				t.Fatalf("P14.1: Common: height %d, want %d", common.Height(), up[meet].Height())
			}
			left, come := p.Between(a, b)
			ahead := down[:on(down, common)]
			slices.Reverse(ahead)
			if !are(left, up[:meet]) || !are(come, ahead) {
				t.Fatalf("P14.1: Between: %d, %d, want %d, %d", len(left), len(come), meet, len(ahead))
			}
			meets(t, p, common, left, come)
			height := r.Intn(a.Height()+4) - 1
			i := slices.IndexFunc(up, func(x tipset.Tipset) bool { return x.Height() <= height })
			want := tipset.Tipset{}
			if i >= 0 {
				want = up[i]
			}
			if got := p.At(a, height); !is(got, want) {
				t.Fatalf("P14.1: At %d: height %d, want %d", height, got.Height(), want.Height())
			}
		}
	}
}

// meets tells where what is left, and what is come to, don't meet just at the
// common one, each standing on the next one.
func meets(t *testing.T, p *Paths, common tipset.Tipset, left, come []tipset.Tipset) {
	t.Helper()
	down := append(slices.Clone(left), common)
	up := append(slices.Clone(come), common)
	slices.Reverse(up[:len(come)])
	for _, l := range [][]tipset.Tipset{down, up} {
		for i, x := range l[1:] {
			if parent, there := p.Parent(l[i]); !there || !is(parent, x) {
				t.Fatalf("P14.3: height %d doesn't stand on height %d", l[i].Height(), x.Height())
			}
		}
	}
	for _, x := range left {
		if on(come, x) >= 0 || is(x, common) {
			t.Fatalf("P14.3: height %d is left and come to", x.Height())
		}
	}
}

// P14.2: a tipset weighs more than any one behind it, at least 256 for each
// step; and by plain means just as much as all steps together.
func TestHeavier(t *testing.T) {
	for seed := range int64(4) {
		d, l := anyDag(t, rand.New(rand.NewSource(100+seed)), 60)
		p := New(d, 8)
		for _, x := range l {
			behind := way(t, d, x)
			var steps []gain.Step
			for i, y := range behind[1:] {
				steps = append(steps, gain.Step{Power: behind[i].Power(), Wins: behind[i].Wins()})
				more, ok := p.Weight(x).Sub(p.Weight(y))
				if !ok || more.Cmp(nat.Of(uint64(256*(i+1)))) < 0 {
					t.Fatalf("P14.2: %s, over %s", p.Weight(x).Text(), p.Weight(y).Text())
				}
			}
			if w := p.Weight(x); w.Cmp(gain.Sum(nat.Nat{}, steps)) != 0 {
				t.Fatalf("P14.1: Weight %s of height %d", w.Text(), x.Height())
			}
		}
	}
}

// P14.4: whatever number of weights is kept, and in whatever order they are
// asked, the answers are the same.
func TestAnyCaches(t *testing.T) {
	r := rand.New(rand.NewSource(14))
	d, l := anyDag(t, r, 80)
	plain := func(x tipset.Tipset) nat.Nat { return New(d, 1).Weight(x) }
	for _, most := range []int{math.MinInt, -1, 0, 1, 2, 3, 17, 1024, 1025, math.MaxInt} {
		p := New(d, most)
		for range 300 {
			x, y := l[r.Intn(len(l))], l[r.Intn(len(l))]
			if w := p.Weight(x); w.Cmp(plain(x)) != 0 {
				t.Fatalf("P14.4: of at most %d: Weight %s, want %s", most, w.Text(), plain(x).Text())
			}
			other := New(d, 1)
			if !is(p.Common(x, y), other.Common(x, y)) || p.Descends(x, y) != other.Descends(x, y) || !is(p.At(x, y.Height()), other.At(x, y.Height())) {
				t.Fatalf("P14.4: of at most %d: another answer", most)
			}
		}
	}
}

// P14.1: no answer hangs on what is done with another one.
func TestMemory(t *testing.T) {
	x := trees(t)
	p := New(x.d, 10)
	left, come := p.Between(x.f, x.h)
	left[0], come[0] = tipset.Tipset{}, tipset.Tipset{}
	again, _ := p.Between(x.f, x.h)
	if !is(again[0], x.f) {
		t.Error("P14.1: answers share memory")
	}
	parent, _ := p.Parent(x.c)
	parent.Blocks()[0].Header.Parents[0] = api.ID{1}
	again[1].Blocks()[0].ID = api.ID{1}
	if parent, _ := p.Parent(x.c); !is(parent, x.ab) || !is(p.At(x.f, 1), x.ab) || !is(again[1], x.c) {
		t.Error("P14.1: tipsets share memory")
	}
}

// P1: tipsets that aren't the dag's are nobody's to ask for; each call ends all
// the same.
func TestAnyTipsets(t *testing.T) {
	x := trees(t)
	p := New(x.d, 1)
	odd := func(h header.Header) tipset.Tipset {
		y, _ := tipset.New(tipset.Make(h))
		return y
	}
	strange := []tipset.Tipset{
		{}, odd(header.Header{}), odd(header.Header{Height: -5, Wins: -5}), odd(header.Header{Height: math.MaxInt, Parents: make([]api.ID, 9)}),
		odd(header.Header{Height: 3, Wins: math.MaxInt, Power: math.MaxUint64, Parents: []api.ID{{7}}}), odd(header.Header{Height: 0, Parents: []api.ID{x.f.Blocks()[0].ID}}),
	}
	all := append(strange, x.root, x.a, x.f, x.h, x.up)
	for _, a := range all {
		p.Weight(a)
		p.Parent(a)
		for _, b := range all {
			p.At(a, b.Height())
			p.Descends(a, b)
			p.OneChain(a, b)
			p.Common(a, b)
			p.Between(a, b)
		}
	}
	if w := p.Weight(x.up).Text(); w != "8985" {
		t.Errorf("P1: Weight behind it: %s", w)
	}
}
