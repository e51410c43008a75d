package dag

import (
	"math"
	"math/rand"
	"reflect"
	"slices"
	"strings"
	"testing"
	"unsafe"

	"coxswain/api"
	"coxswain/header"
	"coxswain/tipset"
)

// over answers a header of a height and a miner over its parents.
func over(height, miner int, parents ...api.ID) header.Header {
	h := header.Header{Height: height, Miner: miner, Ticket: "t" + string(rune('a'+miner)), Wins: 1 + miner%3, Power: 2}
	h.Parents, _ = header.Names(header.Key(parents...))
	return h
}

// salted answers the header with another salt, so of another name.
func salted(h header.Header, salt int) header.Header {
	h.Salt = salt
	return h
}

// come makes headers come in that may.
func come(t *testing.T, d *Dag, l ...header.Header) {
	t.Helper()
	for _, h := range l {
		if e := d.Add(h); e != api.OK {
			t.Fatalf("P13.1: Add of %v: %d", h, e)
		}
	}
}

// look is all that a dag tells.
type look struct {
	blocks   []api.ID
	families []string
	family   [][]tipset.Block
}

// at looks at a dag; what its calls tell has to fit together.
func at(t *testing.T, d *Dag) look {
	t.Helper()
	l := look{blocks: d.Blocks(), families: d.Families()}
	var all []api.ID
	for _, f := range l.families {
		family := d.Family(f)
		l.family = append(l.family, family)
		for i, b := range family {
			c, there := d.Block(b.ID)
			if !there || !d.Has(b.ID) || !reflect.DeepEqual(b, c) || b.ID != b.Header.ID() || b.Header.Family() != f {
				t.Fatalf("P13.1: Block of %x: %v, %t, want %v", b.ID, c, there, b)
			}
			if i > 0 && compare(family[i-1].ID, b.ID) >= 0 {
				t.Fatalf("P13.1: names of a family don't rise: %v", family)
			}
			all = append(all, b.ID)
		}
	}
	slices.SortFunc(all, func(a, b api.ID) int { return strings.Compare(string(a[:]), string(b[:])) })
	if d.Len() != len(all) || !slices.Equal(all, l.blocks) || !slices.IsSorted(l.families) || slices.ContainsFunc(l.family, func(f []tipset.Block) bool { return len(f) == 0 }) {
		t.Fatalf("P13.1: %d blocks, %x, %x", d.Len(), l.blocks, l.families)
	}
	return l
}

// closed tells where the parents of a block that is there aren't there, a
// tipset, and below it.
func closed(t *testing.T, d *Dag) {
	t.Helper()
	for _, id := range d.Blocks() {
		b, _ := d.Block(id)
		if id == header.Root() {
			continue
		}
		var parents []tipset.Block
		for _, p := range b.Header.Parents {
			x, there := d.Block(p)
			if !there || x.Header.Height >= b.Header.Height {
				t.Fatalf("P13.2: the parent %v of %v, %t", x, b, there)
			}
			parents = append(parents, x)
		}
		if _, e := tipset.New(parents...); e != api.OK {
			t.Fatalf("P13.2: the parents of %v: %d", b, e)
		}
	}
}

// P13.1: a new dag has the genesis block, and that alone.
func TestNew(t *testing.T) {
	d := New()
	root := header.Root()
	genesis := []tipset.Block{tipset.Make(header.Genesis())}
	want := look{[]api.ID{root}, []string{header.Genesis().Family()}, [][]tipset.Block{genesis}}
	if l := at(t, d); !reflect.DeepEqual(l, want) || d.Len() != 1 {
		t.Errorf("P13.1: %v, want %v", l, want)
	}
	if x, e := d.Tipset(string(root[:])); e != api.OK || !reflect.DeepEqual(x, tipset.Genesis()) {
		t.Errorf("P13.1: the genesis: %v, %d", x, e)
	}
	if b, there := d.Block(api.ID{}); there || d.Has(api.ID{}) || !reflect.DeepEqual(b, tipset.Block{}) {
		t.Errorf("P13.1: the block of no name: %v, %t", b, there)
	}
	closed(t, d)
}

// P13.1: the chapter's example.
func TestExample(t *testing.T) {
	d := New()
	h := over(1, 3, header.Root())
	if e := d.Add(h); e != api.OK {
		t.Errorf("P13.1: %d", e)
	}
	if e := d.Add(h); e != api.ErrHave || d.Len() != 2 {
		t.Errorf("P13.1: again: %d, %d blocks", e, d.Len())
	}
}

// standing answers a dag of some headers, and these: five of height 1, by
// miners 0 to 4, and another one by miner 1; one over miner 0's alone; and one
// over two of them, with heights between.
func standing(t *testing.T) (*Dag, []header.Header) {
	t.Helper()
	var l []header.Header
	for miner := range 5 {
		l = append(l, over(1, miner, header.Root()))
	}
	l = append(l, salted(l[1], 1), over(2, 6, l[0].ID()), over(9, 7, l[0].ID(), l[1].ID()))
	d := New()
	come(t, d, l...)
	return d, l
}

// ids answers the names of headers.
func ids(l ...header.Header) []api.ID {
	var names []api.ID
	for _, h := range l {
		names = append(names, h.ID())
	}
	return names
}

// changed answers a header that may come in over the genesis, with one field
// changed.
func changed(set func(h *header.Header)) header.Header {
	h := over(1, 9, header.Root())
	set(&h)
	return h
}

// P13.1, P13.2: each error of Check and Add, each order of two that hold at
// once, and what may come in beside its edges.
func TestCheck(t *testing.T) {
	d, l := standing(t)
	unknown := api.ID{7}
	six := changed(func(h *header.Header) { h.Parents = slices.Repeat([]api.ID{header.Root()}, 6) })
	for _, c := range []struct {
		name string
		h    header.Header
		want api.Errno
	}{
		{"over the genesis", over(1, 9, header.Root()), api.OK},
		{"of the greatest height", over(api.MaxHeight, 9, header.Root()), api.OK},
		{"over one", over(2, 9, ids(l[0])...), api.OK},
		{"over one, by its miner", over(2, 0, ids(l[0])...), api.OK},
		{"over five", over(2, 9, ids(l[:5]...)...), api.OK},
		{"over the last one", over(10, 7, ids(l[7])...), api.OK},
		{"beside one, by the same miner", salted(l[6], 5), api.OK},

		{"a zero header", header.Header{}, api.ErrArg},
		{"no parents", changed(func(h *header.Header) { h.Parents = nil }), api.ErrArg},
		{"a parent twice", changed(func(h *header.Header) { h.Parents = []api.ID{header.Root(), header.Root()} }), api.ErrArg},
		{"no ticket", changed(func(h *header.Header) { h.Ticket = "" }), api.ErrArg},
		{"too much power", changed(func(h *header.Header) { h.Power = 1<<62 + 1 }), api.ErrArg},
		{"miner 64", over(1, 64, header.Root()), api.ErrArg},
		{"too high", over(api.MaxHeight+1, 9, header.Root()), api.ErrArg},
		{"six parents", six, api.ErrBig},
		{"six parents, and no ticket", changed(func(h *header.Header) { h.Parents, h.Ticket = six.Parents, "" }), api.ErrBig},
		{"six parents that are there, and no tipset", changed(func(h *header.Header) { h.Parents = ids(l[:6]...) }), api.ErrBig},
		{"six parents that aren't there", changed(func(h *header.Header) { h.Parents = make([]api.ID, 6) }), api.ErrBig},

		{"the genesis: it may not be, and is there", header.Genesis(), api.ErrArg},
		{"of the name of one that is there, and may not be", salted(l[0], -1), api.ErrArg},
		{"may not be, and its parents aren't there", over(0, 9, unknown), api.ErrArg},
		{"may not be, and its parents are no tipset", over(0, 9, ids(l[1], l[5])...), api.ErrArg},
		{"may not be, and its parents stand no lower", over(0, 9, header.Root()), api.ErrArg},

		{"there", l[0], api.ErrHave},
		{"there, the last one", l[7], api.ErrHave},

		{"its parent isn't there", over(2, 9, unknown), api.ErrNone},
		{"the first parent isn't there", over(2, 9, api.ID{}, l[0].ID()), api.ErrNone},
		{"the last parent isn't there", over(2, 9, l[0].ID(), api.ID{0xff, 0xff, 0xff, 0xff, 0xff}), api.ErrNone},
		{"one isn't there, two are of one miner", over(2, 9, append(ids(l[1], l[5]), unknown)...), api.ErrNone},
		{"one isn't there, two are of unlike families", over(2, 9, append(ids(l[1], l[6]), unknown)...), api.ErrNone},
		{"one isn't there, one stands no lower", over(1, 9, l[0].ID(), unknown), api.ErrNone},
		{"one isn't there, two are of one miner and no lower", over(1, 9, append(ids(l[1], l[5]), unknown)...), api.ErrNone},

		{"of one miner", over(2, 9, ids(l[1], l[5])...), api.ErrParents},
		{"five, two of one miner", over(2, 9, ids(l[1:6]...)...), api.ErrParents},
		{"of unlike heights", over(20, 9, ids(l[6], l[7])...), api.ErrParents},
		{"of unlike families", over(3, 9, ids(l[0], l[6])...), api.ErrParents},
		{"the genesis, and one over it", over(3, 9, header.Root(), l[0].ID()), api.ErrParents},
		{"of one miner, and no lower", over(1, 9, ids(l[1], l[5])...), api.ErrParents},
		{"of unlike families, and no lower", over(1, 9, ids(l[0], l[6])...), api.ErrParents},
		{"of unlike families, one of them no lower", over(2, 9, ids(l[0], l[6])...), api.ErrParents},

		{"of its parents' height", over(1, 9, ids(l[0])...), api.ErrHeight},
		{"of its parents' height, which isn't 1", over(9, 9, ids(l[7])...), api.ErrHeight},
		{"below its parents", over(8, 9, ids(l[7])...), api.ErrHeight},
		{"far below its parents", over(1, 9, ids(l[7])...), api.ErrHeight},
		{"above one behind its parents alone", over(3, 7, ids(l[7])...), api.ErrHeight},
		{"of the height of its five parents", over(1, 9, ids(l[:5]...)...), api.ErrHeight},
	} {
		before := at(t, d)
		if e := d.Check(c.h); e != c.want || !reflect.DeepEqual(at(t, d), before) {
			t.Errorf("P13.1: %s: Check: %d, want %d", c.name, e, c.want)
		}
		grown := d.Clone()
		if e := grown.Add(c.h); e != c.want {
			t.Errorf("P13.1: %s: Add: %d, want %d", c.name, e, c.want)
		}
		if is := !reflect.DeepEqual(at(t, grown), before); is != (c.want == api.OK) {
			t.Errorf("P13.1: %s: changed: %t", c.name, is)
		}
		if c.want == api.OK && (grown.Len() != d.Len()+1 || !grown.Has(c.h.ID()) || grown.Check(c.h) != api.ErrHave) {
			t.Errorf("P13.1: %s: it isn't there", c.name)
		}
		closed(t, grown)
	}
}

// P13.1: that a header is there is told ahead of what its parents are. (No
// calls bring it about that these aren't there, so they are taken away.)
func TestHaveFirst(t *testing.T) {
	d, l := standing(t)
	delete(d.blocks, l[0].ID())
	for _, h := range l[6:] {
		if e := d.Check(h); e != api.ErrHave {
			t.Errorf("P13.1: Check: %d", e)
		}
		if e := d.Add(h); e != api.ErrHave {
			t.Errorf("P13.1: Add: %d", e)
		}
	}
}

// P13.1: parents of unlike powers, or of unlike parents, are no tipset.
func TestParentsOfUnlikeFamilies(t *testing.T) {
	d := New()
	a, b := over(1, 1, header.Root()), over(1, 2, header.Root())
	b.Power = 3
	c, e := over(5, 1, a.ID()), over(5, 2, b.ID())
	come(t, d, a, b, c, e)
	for _, h := range []header.Header{over(2, 9, a.ID(), b.ID()), over(6, 9, c.ID(), e.ID())} {
		if got := d.Add(h); got != api.ErrParents {
			t.Errorf("P13.1: Add: %d", got)
		}
	}
}

// P13.1: blocks are there as they came, by their names.
func TestBlocks(t *testing.T) {
	d, l := standing(t)
	if d.Len() != len(l)+1 || len(d.Blocks()) != len(l)+1 {
		t.Errorf("P13.1: %d blocks, %d names", d.Len(), len(d.Blocks()))
	}
	for _, h := range l {
		b, there := d.Block(h.ID())
		if !there || b.ID != h.ID() || !reflect.DeepEqual(b.Header, h) || !slices.Contains(d.Blocks(), h.ID()) {
			t.Errorf("P13.1: Block: %v, %t, want %v", b, there, h)
		}
		near := h.ID()
		near[31] ^= 1
		if b, there := d.Block(near); there || d.Has(near) || !reflect.DeepEqual(b, tipset.Block{}) {
			t.Errorf("P13.1: a block that isn't there: %v", b)
		}
	}
	at(t, d)
}

// P13.1: those that aren't there, rising, each once; nothing else.
func TestMissing(t *testing.T) {
	d, l := standing(t)
	a, b, c := api.ID{}, api.ID{0x80}, api.ID{0x7f, 0xff}
	there := append(ids(l...), header.Root())
	var many []api.ID
	for i := range 300 {
		many = append(many, api.ID{byte(i % 7), 3, byte(i)})
	}
	for _, x := range []struct {
		name    string
		l, want []api.ID
	}{
		{"nil", nil, nil},
		{"none", []api.ID{}, nil},
		{"all there", there, nil},
		{"one there", there[:1], nil},
		{"one there, again and again", []api.ID{there[2], there[2], there[2]}, nil},
		{"one", []api.ID{b}, []api.ID{b}},
		{"one twice", []api.ID{b, b}, []api.ID{b}},
		{"one at both ends", []api.ID{b, there[0], a, there[1], b}, []api.ID{a, b}},
		{"rising", []api.ID{a, c, b}, []api.ID{a, c, b}},
		{"falling", []api.ID{b, c, a}, []api.ID{a, c, b}},
		{"beside those that are there", slices.Concat([]api.ID{b}, there, []api.ID{a, b}), []api.ID{a, b}},
	} {
		before := slices.Clone(x.l)
		if m := d.Missing(x.l...); !slices.Equal(m, x.want) {
			t.Errorf("P13.1: Missing of %s: %x, want %x", x.name, m, x.want)
		}
		if !slices.Equal(x.l, before) {
			t.Errorf("P13.1: Missing of %s changes what it is handed", x.name)
		}
	}
	want := slices.Clone(many)
	slices.SortFunc(want, func(a, b api.ID) int { return strings.Compare(string(a[:]), string(b[:])) })
	if m := d.Missing(slices.Concat(many, there, many)...); !slices.Equal(m, slices.Compact(want)) {
		t.Errorf("P13.1: Missing of many: %d, want %d", len(m), len(want))
	}
}

// P13.1: the tipset of a key, and what is told of others.
func TestTipset(t *testing.T) {
	d, l := standing(t)
	six := ids(l[0], l[1], l[2], l[3], l[4], l[6])
	rising := ids(l[0], l[2])
	slices.SortFunc(rising, func(a, b api.ID) int { return strings.Compare(string(b[:]), string(a[:])) })
	falling := string(rising[0][:]) + string(rising[1][:])
	none := header.Key(api.ID{9})
	for _, c := range []struct {
		name, key string
		l         []header.Header
		want      api.Errno
	}{
		{"one", header.Key(ids(l[0])...), l[:1], api.OK},
		{"two", header.Key(ids(l[0], l[5])...), []header.Header{l[0], l[5]}, api.OK},
		{"five", header.Key(ids(l[:5]...)...), l[:5], api.OK},
		{"the last one", header.Key(ids(l[7])...), l[7:], api.OK},
		{"empty", "", nil, api.ErrArg},
		{"a letter", "x", nil, api.ErrArg},
		{"31 bytes", header.Key(ids(l[0])...)[:31], nil, api.ErrArg},
		{"33 bytes", header.Key(ids(l[0])...) + "x", nil, api.ErrArg},
		{"one name twice", header.Key(ids(l[0])...) + header.Key(ids(l[0])...), nil, api.ErrArg},
		{"names that fall", falling, nil, api.ErrArg},
		{"six names", header.Key(six...), nil, api.ErrArg},
		{"six names that aren't there", header.Key(append(six[:5:5], api.ID{9})...), nil, api.ErrArg},
		{"no key, of names that aren't there", none + none, nil, api.ErrArg},
		{"one that isn't there", none, nil, api.ErrNone},
		{"the name of noughts", header.Key(api.ID{}), nil, api.ErrNone},
		{"one that is there, one that isn't", header.Key(l[0].ID(), api.ID{}), nil, api.ErrNone},
		{"one that isn't there, at the end", header.Key(l[0].ID(), api.ID{0xff, 0xff, 0xff, 0xff}), nil, api.ErrNone},
		{"two of one miner, and one that isn't there", header.Key(append(ids(l[1], l[5]), api.ID{9})...), nil, api.ErrNone},
		{"two of one miner", header.Key(ids(l[1], l[5])...), nil, api.ErrTipset},
		{"five, two of one miner", header.Key(ids(l[1:6]...)...), nil, api.ErrTipset},
		{"unlike families", header.Key(ids(l[0], l[6])...), nil, api.ErrTipset},
		{"the genesis, and another one", header.Key(header.Root(), l[0].ID()), nil, api.ErrTipset},
	} {
		var blocks []tipset.Block
		for _, h := range c.l {
			blocks = append(blocks, tipset.Make(h))
		}
		want, _ := tipset.New(blocks...)
		x, e := d.Tipset(c.key)
		if e != c.want || !reflect.DeepEqual(x, want) || e != api.OK && !x.Zero() {
			t.Errorf("P13.1: Tipset of %s: %v, %d, want %d", c.name, x, e, c.want)
		}
	}
}

// P13.1: families are told by height, power and parents alone, the genesis
// block's among them; a text that is none has no blocks.
func TestFamilies(t *testing.T) {
	d, l := standing(t)
	other := l[0]
	other.Power = 3
	alike := over(2, 60, l[0].ID())
	come(t, d, other, alike, salted(l[6], 3))
	want := []string{header.Genesis().Family(), l[0].Family(), l[6].Family(), l[7].Family(), other.Family()}
	slices.Sort(want)
	if f := d.Families(); !slices.Equal(f, want) {
		t.Errorf("P13.1: Families: %x, want %x", f, want)
	}
	for _, c := range []struct {
		name, f string
		l       []header.Header
	}{
		{"the genesis", header.Genesis().Family(), []header.Header{header.Genesis()}},
		{"height 1", l[0].Family(), l[:6]},
		{"another power", other.Family(), []header.Header{other}},
		{"height 2", alike.Family(), []header.Header{l[6], alike, salted(l[6], 3)}},
		{"height 9", l[7].Family(), l[7:]},
		{"one that isn't there", over(2, 6, l[1].ID()).Family(), nil},
		{"no text", "", nil},
		{"a beginning", l[0].Family()[:5], nil},
		{"more than a family", l[0].Family() + "\x00", nil},
		{"the key", header.Key(l[0].ID()), nil},
	} {
		var blocks []tipset.Block
		for _, h := range c.l {
			blocks = append(blocks, tipset.Make(h))
		}
		slices.SortFunc(blocks, func(a, b tipset.Block) int { return strings.Compare(string(a.ID[:]), string(b.ID[:])) })
		if got := d.Family(c.f); !reflect.DeepEqual(got, blocks) {
			t.Errorf("P13.1: Family of %s: %v, want %v", c.name, got, blocks)
		}
	}
	at(t, d)
}

// P13.1: a clone is just like the dag, and each goes its own way, also in the
// families that both have.
func TestClone(t *testing.T) {
	for size := range 12 {
		d := New()
		for salt := range size {
			come(t, d, salted(over(1, 1, header.Root()), salt))
		}
		before := at(t, d)
		c := d.Clone()
		if !reflect.DeepEqual(at(t, c), before) {
			t.Fatalf("P13.1: a clone isn't alike")
		}
		for salt := range 20 {
			come(t, c, salted(over(1, 2, header.Root()), salt))
		}
		if !reflect.DeepEqual(at(t, d), before) {
			t.Fatal("P13.1: what comes in to a clone changes the dag")
		}
		second, third := at(t, c), c.Clone()
		for salt := range 20 {
			come(t, d, salted(over(1, 3, header.Root()), salt), salted(over(7, 3, header.Root()), salt))
		}
		if !reflect.DeepEqual(at(t, c), second) || !reflect.DeepEqual(at(t, third), second) {
			t.Fatal("P13.1: what comes in to the dag changes a clone")
		}
		if d.Len() != 41+size || c.Len() != 21+size || d.Has(salted(over(1, 2, header.Root()), 3).ID()) || c.Has(salted(over(1, 3, header.Root()), 3).ID()) {
			t.Errorf("P13.1: %d, %d blocks", d.Len(), c.Len())
		}
		come(t, c, salted(over(1, 3, header.Root()), 3))
		if third.Len() != 21+size || c.Len() != 22+size {
			t.Errorf("P13.1: %d, %d blocks", third.Len(), c.Len())
		}
		closed(t, d)
		closed(t, c)
	}
}

// orders calls do with each order of the headers that has each behind its
// parents.
func orders(ahead, left []header.Header, do func([]header.Header)) {
	if len(left) == 0 {
		do(ahead)
		return
	}
	names := append(ids(ahead...), header.Root())
	for i, h := range left {
		if slices.ContainsFunc(h.Parents, func(p api.ID) bool { return !slices.Contains(names, p) }) {
			continue
		}
		orders(append(ahead[:len(ahead):len(ahead)], h), slices.Concat(left[:i], left[i+1:]), do)
	}
}

// P13.3: in each order that has each header behind its parents the same blocks
// are there.
func TestOrders(t *testing.T) {
	a, b, c := over(1, 1, header.Root()), over(1, 2, header.Root()), salted(over(1, 2, header.Root()), 4)
	e := over(2, 1, a.ID(), b.ID())
	l := []header.Header{a, b, c, e, over(3, 3, c.ID()), over(2, 4, a.ID(), b.ID()), over(5, 1, e.ID())}
	first := New()
	come(t, first, l...)
	want := at(t, first)
	count := 0
	orders(nil, l, func(l []header.Header) {
		count++
		d := New()
		come(t, d, l...)
		if !reflect.DeepEqual(at(t, d), want) {
			t.Fatalf("P13.3: in the order %v: other blocks", l)
		}
	})
	if count < 100 {
		t.Fatalf("P13.3: %d orders", count)
	}
}

// anyHeader answers a header over some that are there, or may not come in.
func anyHeader(r *rand.Rand, l []header.Header) header.Header {
	var parents []api.ID
	first := l[r.Intn(len(l))]
	parents = append(parents, first.ID())
	for range r.Intn(3) {
		if h := l[r.Intn(len(l))]; r.Intn(6) == 0 || h.Family() == first.Family() {
			parents = append(parents, h.ID())
		}
	}
	if r.Intn(12) == 0 {
		parents = append(parents, api.ID{byte(r.Intn(256))})
	}
	h := over(first.Height+r.Intn(4), r.Intn(5), parents...)
	h.Salt = r.Intn(2)
	h.Power = uint64(2 + r.Intn(2))
	if r.Intn(12) == 0 {
		h.Wins = 0
	}
	return h
}

// may tells by plain means whether a header may come in over others.
func may(h header.Header, l []header.Header) api.Errno {
	if e := h.Check(); e != api.OK {
		return e
	}
	there := map[api.ID]header.Header{}
	for _, x := range l {
		there[x.ID()] = x
	}
	if _, is := there[h.ID()]; is {
		return api.ErrHave
	}
	miners := map[int]int{}
	families := map[string]int{}
	height := 0
	for _, p := range h.Parents {
		x, is := there[p]
		if !is {
			return api.ErrNone
		}
		miners[x.Miner]++
		families[x.Family()]++
		height = x.Height
	}
	switch {
	case len(miners) != len(h.Parents) || len(families) != 1:
		return api.ErrParents
	case h.Height <= height:
		return api.ErrHeight
	}
	return api.OK
}

// P13.1, P13.2, P13.3: of any headers, those come in that plain means let, each
// other one changes nothing; the dag is closed; and in another order, again and
// again, with what may not be between, the same blocks are there.
func TestAnyHeaders(t *testing.T) {
	for seed := range int64(8) {
		r := rand.New(rand.NewSource(seed))
		l := []header.Header{header.Genesis()}
		told := map[api.Errno]int{}
		var all []header.Header
		d := New()
		for range 250 {
			h := anyHeader(r, l)
			all = append(all, h)
			want := may(h, l)
			if c, e := d.Check(h), d.Add(h); c != want || e != want {
				t.Fatalf("P13.1: %v: %d, %d, want %d", h, c, e, want)
			}
			told[want]++
			if want == api.OK {
				l = append(l, h)
			}
			if d.Len() != len(l) {
				t.Fatalf("P13.1: %d blocks, want %d", d.Len(), len(l))
			}
		}
		closed(t, d)
		if len(told) != 6 || told[api.OK] < 40 {
			t.Fatalf("P13.1: what was told: %v", told)
		}
		other := New()
		for other.Len() < d.Len() {
			r.Shuffle(len(all), func(i, j int) { all[i], all[j] = all[j], all[i] })
			before := other.Len()
			for _, h := range all {
				other.Add(h)
			}
			if other.Len() == before {
				t.Fatalf("P13.3: %d blocks, want %d", before, d.Len())
			}
		}
		if !reflect.DeepEqual(at(t, other), at(t, d)) {
			t.Fatal("P13.3: in another order, other blocks")
		}
	}
}

// P13.1: nothing that is handed in is changed or kept, and no answer shares
// memory with the dag or with another one.
func TestMemory(t *testing.T) {
	d := New()
	a, b := over(1, 1, header.Root()), over(1, 2, header.Root())
	come(t, d, a, b)
	room := append(ids(a, b), api.ID{9})
	slices.SortFunc(room[:2], compare)
	h := over(2, 3)
	h.Parents = room[:2]
	ticket := []byte("ticket")
	h.Ticket = unsafe.String(&ticket[0], len(ticket))
	name, family := h.ID(), h.Family()
	come(t, d, h)
	if room[2] != (api.ID{9}) {
		t.Error("P13.1: Add changes spare room")
	}
	room[0], ticket[0] = api.ID{1}, 'x'
	want := at(t, d)
	x, _ := d.Block(name)
	if x.Header.ID() != name || x.Header.Ticket != "ticket" {
		t.Errorf("P13.1: what was handed in is kept: %v", x)
	}
	y, _ := d.Block(name)
	blocks, families, members := d.Blocks(), d.Families(), d.Family(family)
	if unsafe.StringData(x.Header.Ticket) == unsafe.StringData(y.Header.Ticket) || unsafe.StringData(families[0]) == unsafe.StringData(d.Families()[0]) {
		t.Error("P13.1: texts of two answers share memory")
	}
	x.Header.Parents[0], blocks[0], families[0] = api.ID{1}, api.ID{1}, "x"
	members[0].Header.Parents[1] = api.ID{1}
	if !reflect.DeepEqual(at(t, d), want) || y.Header.ID() != name {
		t.Error("P13.1: answers share memory")
	}
	c := d.Clone()
	z, _ := c.Block(name)
	z.Header.Parents[0] = api.ID{1}
	if !reflect.DeepEqual(at(t, d), want) || !reflect.DeepEqual(at(t, c), want) {
		t.Error("P13.1: answers of a clone share memory")
	}
	names := append(make([]api.ID, 0, 4), api.ID{8}, a.ID(), api.ID{7})
	m := d.Missing(names...)
	m[0] = api.ID{1}
	if !slices.Equal(names, []api.ID{{8}, a.ID(), {7}}) || names[:4][3] != (api.ID{}) {
		t.Error("P13.1: Missing changes what it is handed")
	}
}

// P1: headers, names and texts of anything are taken, and change nothing.
func TestAnyArguments(t *testing.T) {
	d, _ := standing(t)
	before := at(t, d)
	for _, n := range []int{math.MinInt, -1, 0, 1 << 31, math.MaxInt} {
		for _, l := range [][]api.ID{nil, {}, {header.Root()}, make([]api.ID, 5), make([]api.ID, 3000)} {
			h := header.Header{Height: n, Miner: n, Ticket: strings.Repeat("\xff", 300), Wins: n, Power: uint64(n), Parents: l, Salt: n}
			if c, e := d.Check(h), d.Add(h); c == api.OK || c != e {
				t.Errorf("P1: %d, %d", c, e)
			}
			d.Missing(l...)
		}
	}
	for _, s := range []string{"\x00", strings.Repeat("\x00", 32), strings.Repeat("\xff", 161), strings.Repeat("k", 1<<20)} {
		if x, e := d.Tipset(s); e == api.OK || !x.Zero() || d.Family(s) != nil {
			t.Errorf("P1: %d", e)
		}
	}
	if !reflect.DeepEqual(at(t, d), before) {
		t.Error("P1: what may not be changes something")
	}
}
