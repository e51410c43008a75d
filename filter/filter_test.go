package filter

import (
	"math"
	"math/rand"
	"reflect"
	"slices"
	"testing"
	"unsafe"

	"coxswain/api"
	"coxswain/header"
	"coxswain/tipset"
)

// said answers a block of a miner and a height, and of a ticket, which tells
// its name from others'.
func said(height, miner int, ticket string) tipset.Block {
	return tipset.Make(header.Header{Height: height, Miner: miner, Ticket: ticket, Wins: 1, Power: 2, Parents: []api.ID{{1}, {2}}})
}

// named answers a block of a name that is handed in.
func named(name byte, height, miner int) tipset.Block {
	return tipset.Block{ID: api.ID{name}, Header: header.Header{Height: height, Miner: miner}}
}

// knows answers a filter to which blocks are known.
func knows(l ...tipset.Block) *Filter {
	f := New()
	f.Add(l...)
	return f
}

// P15.1: a block is banned just where another one of its miner and height is
// known, whether it is known itself or not.
func TestBanned(t *testing.T) {
	a, b, c, d := said(7, 3, "a"), said(7, 3, "b"), said(7, 3, "c"), said(7, 3, "d")
	higher, lower, other := said(8, 3, "a"), said(6, 3, "a"), said(7, 2, "a")
	type blocks = []tipset.Block
	for _, x := range []struct {
		name        string
		known       blocks
		banned, not blocks
	}{
		{"none", nil, nil, blocks{a, b, higher, other, {}}},
		{"none, by a list of none", blocks{}, nil, blocks{a, b}},
		{"one", blocks{a}, blocks{b, c}, blocks{a, higher, lower, other, {}}},
		{"one, again and again", blocks{a, a, a}, blocks{b, c}, blocks{a, higher, lower, other}},
		{"two", blocks{a, b}, blocks{a, b, c}, blocks{higher, lower, other}},
		{"two, again and again", blocks{b, b, a, a, b}, blocks{a, b, c}, blocks{higher, lower, other}},
		{"three", blocks{a, b, c}, blocks{a, b, c, d}, blocks{higher, lower, other}},
		{"three, the first one last again", blocks{c, b, a, c}, blocks{a, b, c, d}, blocks{higher, lower, other}},
		{"four", blocks{a, b, c, d}, blocks{a, b, c, d}, blocks{higher, lower, other}},
		{"one miner at three heights", blocks{higher, a, lower}, blocks{b, said(8, 3, "b"), said(6, 3, "b")}, blocks{a, higher, lower, other, said(9, 3, "a")}},
		{"two miners at one height", blocks{a, other}, blocks{b, said(7, 2, "b")}, blocks{a, other, higher, said(7, 1, "a")}},
		{"height and miner the other way round", blocks{a, said(3, 7, "b")}, blocks{b, said(3, 7, "a")}, blocks{a, said(3, 7, "b")}},
		{"two of one, one of another", blocks{a, other, b}, blocks{a, b, c, said(7, 2, "b")}, blocks{other, higher}},
		{"the genesis block", blocks{tipset.Make(header.Genesis())}, blocks{said(0, 0, "a")}, blocks{tipset.Make(header.Genesis()), said(7, 0, "a"), a}},
		{"the genesis block, and another one", blocks{tipset.Make(header.Genesis()), said(0, 0, "a")}, blocks{said(0, 0, "a"), tipset.Make(header.Genesis())}, blocks{said(0, 1, "a"), said(1, 0, "a")}},
		{"the name of noughts", blocks{named(0, 7, 3)}, blocks{a}, blocks{named(0, 7, 3), higher}},
		{"the name of noughts, and another one", blocks{a, named(0, 7, 3)}, blocks{a, named(0, 7, 3), b}, blocks{higher}},
	} {
		f := knows(x.known...)
		for _, b := range x.banned {
			if !f.Banned(b) {
				t.Errorf("P15.1: %s: %v isn't banned", x.name, b.Header)
			}
		}
		for _, b := range x.not {
			if f.Banned(b) {
				t.Errorf("P15.1: %s: %v is banned", x.name, b.Header)
			}
		}
	}
}

// P15.1: each of a block's fields but the miner and the height may be another
// one: it is the name that tells it from another one.
func TestOtherFields(t *testing.T) {
	h := said(7, 3, "a").Header
	for i, set := range []func(h *header.Header){
		func(h *header.Header) { h.Ticket = "b" },
		func(h *header.Header) { h.Wins = 2 },
		func(h *header.Header) { h.Power = 3 },
		func(h *header.Header) { h.Parents = []api.ID{{1}} },
		func(h *header.Header) { h.Salt = 1 },
	} {
		other := h
		set(&other)
		f := knows(tipset.Make(h))
		if b := tipset.Make(other); !f.Banned(b) {
			t.Errorf("P15.1: %d: another block isn't banned", i)
		}
		if f.Banned(tipset.Block{ID: h.ID(), Header: other}) {
			t.Errorf("P15.1: %d: a block of the same name is banned", i)
		}
	}
	near := tipset.Make(h)
	near.ID[31] ^= 1
	if !knows(tipset.Make(h)).Banned(near) {
		t.Error("P15.1: a name of another last byte isn't another one")
	}
}

// P15.1: blocks of one name, but of unlike heights or miners, count each by its
// own.
func TestOneName(t *testing.T) {
	low, zero := said(-1, 3, "a"), said(0, 3, "a")
	least, nobody := said(7, -5, "a"), said(7, 0, "a")
	if low.ID != zero.ID || least.ID != nobody.ID {
		t.Fatal("unlike names")
	}
	all := []tipset.Block{low, zero, least, nobody}
	f := knows(all...)
	if clean := f.Clean(all); !reflect.DeepEqual(clean, all) || f.Pairs() != nil {
		t.Errorf("P15.1: Clean: %d, Pairs: %v", len(clean), f.Pairs())
	}
	f.Add(said(-1, 3, "b"), said(7, -5, "b"))
	if clean := f.Clean(all); !reflect.DeepEqual(clean, []tipset.Block{zero, nobody}) {
		t.Errorf("P15.1: Clean: %v", clean)
	}
	if p := f.Pairs(); !slices.Equal(p, []Pair{{-1, 3}, {7, -5}}) {
		t.Errorf("P15.1: Pairs: %v", p)
	}
	g := knows(named(1, 7, 3), named(1, 8, 3), named(1, 7, 4))
	for _, b := range []tipset.Block{named(1, 7, 3), named(1, 8, 3), named(1, 7, 4), named(1, 9, 9)} {
		if g.Banned(b) {
			t.Errorf("P15.1: %v is banned by its own name", b.Header)
		}
	}
	if !g.Banned(named(2, 7, 4)) || !g.Banned(named(2, 8, 3)) || g.Banned(named(2, 8, 4)) {
		t.Error("P15.1: another name")
	}
}

// P15.1: those that aren't banned, in their order, however often they stand
// there; it isn't asked whether they are known.
func TestClean(t *testing.T) {
	a, b, c := said(7, 3, "a"), said(7, 3, "b"), said(8, 3, "c")
	d, e, unknown := said(7, 2, "d"), said(9, 5, "e"), said(4, 4, "u")
	f := knows(a, b, c, d, e)
	type blocks = []tipset.Block
	for _, x := range []struct {
		name    string
		l, want blocks
	}{
		{"nil", nil, nil},
		{"none", blocks{}, nil},
		{"all banned", blocks{a, b, a, said(7, 3, "x")}, nil},
		{"none banned", blocks{c, d, e}, blocks{c, d, e}},
		{"the other way round", blocks{e, d, c}, blocks{e, d, c}},
		{"some", blocks{a, e, b, c, a, d}, blocks{e, c, d}},
		{"the banned ones at both ends", blocks{b, d, c, e, a}, blocks{d, c, e}},
		{"again and again", blocks{c, d, c, a, c}, blocks{c, d, c, c}},
		{"unknown ones", blocks{unknown, said(8, 3, "x"), d}, blocks{unknown, d}},
		{"one", blocks{d}, blocks{d}},
	} {
		before := slices.Clone(x.l)
		if got := f.Clean(x.l); !reflect.DeepEqual(got, x.want) {
			t.Errorf("P15.1: Clean of %s: %v, want %v", x.name, got, x.want)
		}
		if !reflect.DeepEqual(x.l, before) && len(before) > 0 {
			t.Errorf("P15.1: Clean of %s changes what it is handed", x.name)
		}
	}
	if l := New().Clean(blocks{a, b, a}); !reflect.DeepEqual(l, blocks{a, b, a}) {
		t.Errorf("P15.1: Clean, with none known: %v", l)
	}
}

// P15.1: who said two things or more, by rising heights, then miners, each once.
func TestPairs(t *testing.T) {
	if p := New().Pairs(); p != nil {
		t.Errorf("P15.1: Pairs, with none known: %v", p)
	}
	f := New()
	var want []Pair
	for _, height := range []int{300, -2, 7, math.MinInt, 0, 8, math.MaxInt} {
		for _, miner := range []int{63, -1, 2, 10, 0, math.MaxInt, math.MinInt} {
			f.Add(said(height, miner, "a"))
			if (height+miner)%3 == 0 {
				continue
			}
			want = append(want, Pair{Height: height, Miner: miner})
			for i := range 1 + (miner & 3) {
				f.Add(named(byte(i), height, miner), named(byte(i), height, miner))
			}
		}
	}
	slices.SortFunc(want, func(a, b Pair) int {
		switch {
		case a.Height < b.Height || a.Height == b.Height && a.Miner < b.Miner:
			return -1
		case a == b:
			return 0
		}
		return 1
	})
	if len(want) < 20 || len(want) > 45 {
		t.Fatalf("%d pairs", len(want))
	}
	for range 20 {
		if p := f.Pairs(); !slices.Equal(p, want) {
			t.Fatalf("P15.1: Pairs: %v, want %v", p, want)
		}
	}
	for _, x := range []struct {
		known []tipset.Block
		want  []Pair
	}{
		{[]tipset.Block{said(7, 3, "a")}, nil},
		{[]tipset.Block{said(7, 3, "a"), said(7, 3, "a")}, nil},
		{[]tipset.Block{said(7, 3, "a"), said(8, 3, "b"), said(7, 2, "c")}, nil},
		{[]tipset.Block{said(7, 3, "a"), said(7, 3, "b")}, []Pair{{7, 3}}},
		{[]tipset.Block{said(7, 3, "a"), said(7, 3, "b"), said(7, 3, "c"), said(7, 3, "a")}, []Pair{{7, 3}}},
		{[]tipset.Block{said(8, 1, "a"), said(7, 3, "a"), said(8, 1, "b"), said(7, 3, "b"), said(7, 2, "a"), said(7, 2, "b")}, []Pair{{7, 2}, {7, 3}, {8, 1}}},
	} {
		if p := knows(x.known...).Pairs(); !slices.Equal(p, x.want) || (p == nil) != (x.want == nil) {
			t.Errorf("P15.1: Pairs: %v, want %v", p, x.want)
		}
	}
}

// P15.1: a clone is just like the filter, and each goes its own way, also in
// the miners and heights that both know.
func TestClone(t *testing.T) {
	a, b, c := said(7, 3, "a"), said(7, 3, "b"), said(8, 3, "c")
	f := knows(a, c)
	g := f.Clone()
	if g.Banned(a) || !g.Banned(b) || g.Banned(c) || g.Pairs() != nil {
		t.Fatal("P15.1: a clone isn't alike")
	}
	g.Add(b)
	if f.Banned(a) || f.Pairs() != nil || !g.Banned(a) || !slices.Equal(g.Pairs(), []Pair{{7, 3}}) {
		t.Errorf("P15.1: what is known to a clone is known to the filter: %v", f.Pairs())
	}
	h := f.Clone()
	f.Add(said(8, 3, "d"), said(9, 1, "e"))
	if h.Banned(c) || g.Banned(c) || h.Pairs() != nil || h.Banned(said(9, 1, "f")) || !f.Banned(c) {
		t.Errorf("P15.1: what is known to the filter is known to a clone: %v, %v", g.Pairs(), h.Pairs())
	}
	last := g.Clone()
	if !last.Banned(a) || !last.Banned(b) || !slices.Equal(last.Pairs(), g.Pairs()) {
		t.Error("P15.1: a clone's clone isn't alike")
	}
	empty := New()
	other := empty.Clone()
	other.Add(a, b)
	if empty.Banned(a) || empty.Pairs() != nil || !other.Banned(a) {
		t.Error("P15.1: a clone of a filter to which none are known")
	}
}

// look is all that a filter tells of blocks.
type look struct {
	banned []bool
	clean  []tipset.Block
	pairs  []Pair
}

// at looks at a filter.
func at(f *Filter, l []tipset.Block) look {
	x := look{clean: f.Clean(l), pairs: f.Pairs()}
	for _, b := range l {
		x.banned = append(x.banned, f.Banned(b))
	}
	return x
}

// orders calls do with each order of the blocks.
func orders(ahead, left []tipset.Block, do func([]tipset.Block)) {
	if len(left) == 0 {
		do(ahead)
	}
	for i, b := range left {
		orders(append(ahead[:len(ahead):len(ahead)], b), slices.Concat(left[:i], left[i+1:]), do)
	}
}

// P15.2: in whatever order, and however often blocks come, by one call or by
// many, the same are banned.
func TestOrders(t *testing.T) {
	l := []tipset.Block{said(7, 3, "a"), said(7, 3, "b"), said(7, 3, "c"), said(8, 3, "a"), said(7, 2, "a"), said(7, 2, "b")}
	all := append(slices.Clone(l), said(7, 3, "x"), said(8, 3, "x"), said(7, 2, "x"), said(1, 1, "x"))
	want := at(knows(l...), all)
	orders(nil, l, func(l []tipset.Block) {
		once, often := knows(l...), New()
		for i, b := range l {
			often.Add(b)
			often.Add(l[:i]...)
			often.Add(b, l[i/2])
		}
		if !reflect.DeepEqual(at(once, all), want) || !reflect.DeepEqual(at(often, all), want) {
			t.Fatalf("P15.2: in the order %v: %v, %v, want %v", l, at(once, all), at(often, all), want)
		}
	})
}

// another tells by plain means whether another block of its miner and height is
// among those that are known.
func another(known []tipset.Block, b tipset.Block) bool {
	return slices.ContainsFunc(known, func(x tipset.Block) bool {
		return x.ID != b.ID && x.Header.Height == b.Header.Height && x.Header.Miner == b.Header.Miner
	})
}

// P15.1, P15.2: behind any calls what plain means tell; what is known more bans
// no less.
func TestAnyCalls(t *testing.T) {
	for seed := range int64(10) {
		r := rand.New(rand.NewSource(seed))
		var all []tipset.Block
		for range 120 {
			all = append(all, named(byte(r.Intn(4)), r.Intn(6)-1, r.Intn(6)-1))
		}
		f, known := New(), []tipset.Block(nil)
		for range 40 {
			before := at(f, all)
			l := make([]tipset.Block, r.Intn(4))
			for i := range l {
				l[i] = all[r.Intn(len(all))]
			}
			f.Add(l...)
			known = append(known, l...)
			plain := look{}
			for i, b := range all {
				banned := another(known, b)
				plain.banned = append(plain.banned, banned)
				if !banned {
					plain.clean = append(plain.clean, b)
				}
				if before.banned[i] && !banned {
					t.Fatal("P15.2: what is known more bans less")
				}
			}
			for height := -1; height < 5; height++ {
				for miner := -1; miner < 5; miner++ {
					if slices.ContainsFunc(known, func(b tipset.Block) bool { return pair(b) == Pair{height, miner} && another(known, b) }) {
						plain.pairs = append(plain.pairs, Pair{height, miner})
					}
				}
			}
			if got := at(f, all); !reflect.DeepEqual(got, plain) {
				t.Fatalf("P15.1: %v, want %v", got, plain)
			}
			if r.Intn(5) == 0 {
				f.Add() // of none nothing
				f = f.Clone()
			}
		}
	}
}

// P15.2: of one miner and height no more is kept than tells what is asked.
func TestKeepsLittle(t *testing.T) {
	f := New()
	for i := range 200 {
		f.Add(named(byte(i), 7, 3), named(1, i, 5))
	}
	for p, l := range f.known {
		if len(l) > 2 {
			t.Errorf("P15.2: of %v %d names are kept", p, len(l))
		}
	}
	if f.Banned(named(1, 9, 5)) || !f.Banned(named(200, 7, 3)) || !slices.Equal(f.Pairs(), []Pair{{7, 3}}) {
		t.Errorf("P15.2: Pairs: %v", f.Pairs())
	}
}

// P15.1: nothing that is handed in is changed or kept, and no answer shares
// memory with it, with the filter, or with another one.
func TestMemory(t *testing.T) {
	room := []tipset.Block{said(7, 3, "a"), said(7, 3, "b"), said(8, 1, "c"), said(9, 9, "d")}
	before := []tipset.Block{said(7, 3, "a"), said(7, 3, "b"), said(8, 1, "c"), said(9, 9, "d")}
	f := New()
	f.Add(room[:3]...)
	clean := f.Clean(room[2:3])
	if !reflect.DeepEqual(room, before) {
		t.Fatal("P15.1: what is handed in is changed")
	}
	again := f.Clean(room[2:3])
	if unsafe.StringData(clean[0].Header.Ticket) == unsafe.StringData(room[2].Header.Ticket) || unsafe.StringData(clean[0].Header.Ticket) == unsafe.StringData(again[0].Header.Ticket) {
		t.Error("P15.1: tickets share memory")
	}
	clean[0].Header.Parents[0], clean[0].ID = api.ID{9}, api.ID{9}
	if !reflect.DeepEqual(room, before) || !reflect.DeepEqual(again, before[2:3]) {
		t.Error("P15.1: answers share memory")
	}
	twice := f.Clean([]tipset.Block{room[2], room[2]})
	twice[0].Header.Parents[0] = api.ID{9}
	if !reflect.DeepEqual(twice[1], before[2]) {
		t.Error("P15.1: blocks of one answer share memory")
	}
	_ = append(clean, said(5, 5, "x"))
	for i := range room {
		room[i] = tipset.Block{}
	}
	pairs := f.Pairs()
	pairs[0] = Pair{}
	if !f.Banned(before[0]) || f.Banned(before[2]) || !slices.Equal(f.Pairs(), []Pair{{7, 3}}) {
		t.Error("P15.1: what was handed in is kept, or answers share memory")
	}
}

// P1: blocks of anything are taken.
func TestAnyArguments(t *testing.T) {
	f := New()
	f.Add()
	f.Add(nil...)
	numbers := []int{math.MinInt, -1, 0, 1, 64, 1 << 31, math.MaxInt}
	var l []tipset.Block
	for _, n := range numbers {
		for _, m := range numbers {
			l = append(l, tipset.Make(header.Header{Height: n, Miner: m, Wins: m, Salt: n, Power: math.MaxUint64}))
		}
	}
	f.Add(append(l, tipset.Block{}, tipset.Block{Header: header.Header{Height: 300, Parents: make([]api.ID, 300)}})...)
	for _, b := range l {
		if want := b.Header.Height == 0 && b.Header.Miner == 0; f.Banned(b) != want {
			t.Errorf("P1: Banned of height %d, miner %d: %t", b.Header.Height, b.Header.Miner, !want)
		}
	}
	if p := f.Pairs(); !slices.Equal(p, []Pair{{0, 0}}) { // the zero block has another name than the one that was made
		t.Errorf("P1: Pairs: %v", p)
	}
	if l := f.Clean(make([]tipset.Block, 3000)); l != nil {
		t.Errorf("P1: Clean: %d", len(l))
	}
}
