package front

import (
	"math"
	"math/rand"
	"reflect"
	"slices"
	"strings"
	"testing"

	"coxswain/api"
	"coxswain/dag"
	"coxswain/filter"
	"coxswain/header"
	"coxswain/tipset"
)

// chain is a dag, and a filter that knows just its blocks.
type chain struct {
	t *testing.T
	d *dag.Dag
	f *filter.Filter
}

// begin answers one of the genesis block.
func begin(t *testing.T) chain {
	c := chain{t: t, d: dag.New(), f: filter.New()}
	c.f.Add(tipset.Make(header.Genesis()))
	return c
}

// over answers a header over its parents; over none: over the genesis block.
func over(height, miner int, ticket string, parents ...tipset.Block) header.Header {
	h := header.Header{Height: height, Miner: miner, Ticket: ticket, Wins: 1, Power: 2, Parents: []api.ID{header.Root()}}
	var ids []api.ID
	for _, b := range parents {
		ids = append(ids, b.ID)
	}
	if len(ids) > 0 {
		h.Parents, _ = header.Names(header.Key(ids...))
	}
	return h
}

// come makes a header come in, and answers its block.
func (c chain) come(h header.Header) tipset.Block {
	c.t.Helper()
	if e := c.d.Add(h); e != api.OK {
		c.t.Fatalf("Add of %v: %d", h, e)
	}
	b := tipset.Make(h)
	c.f.Add(b)
	return b
}

// of answers the tipset of these blocks.
func of(t *testing.T, l ...tipset.Block) tipset.Tipset {
	t.Helper()
	x, e := tipset.New(l...)
	if e != api.OK {
		t.Fatalf("no tipset: %d", e)
	}
	return x
}

// front asks for the front of a block's family; what is told of it has to fit
// together.
func (c chain) front(b tipset.Block, clock, delay int) (tipset.Tipset, bool) {
	c.t.Helper()
	x, is := Of(c.d, c.f, b.Header.Family(), clock, delay)
	if is == x.Zero() {
		c.t.Fatalf("P16.1: a front, %t, of %d blocks", is, len(x.Blocks()))
	}
	return x, is
}

// wants tells where the front of the first block's family isn't of these.
func (c chain) wants(name string, clock, delay int, b tipset.Block, l ...tipset.Block) {
	c.t.Helper()
	var want tipset.Tipset
	if len(l) > 0 {
		want = of(c.t, l...)
	}
	if x, _ := c.front(b, clock, delay); !reflect.DeepEqual(x, want) {
		c.t.Errorf("P16.1: %s: a front of %d blocks %v, want %d", name, len(x.Blocks()), x, len(l))
	}
}

// P16.1: a block counts from the clock on that is its height and the delay
// together, whatever numbers these are; of a delay that may not be the nearest.
func TestCounts(t *testing.T) {
	delays := []struct{ delay, counts int }{
		{math.MinInt, 0}, {-6, 0}, {-1, 0}, {0, 0}, {1, 1}, {2, 2}, {4, 4}, {5, 5}, {6, 5}, {7, 5}, {1 << 40, 5}, {math.MaxInt, 5},
	}
	f := filter.New()
	for _, height := range []int{math.MinInt, -7, -1, 0, 1, 2, 100, api.MaxHeight, math.MaxInt - 6} {
		b := tipset.Make(over(height, 3, "t"))
		for _, x := range delays {
			first := height + x.counts
			for _, clock := range []int{first, first + 1, math.MaxInt} {
				if !Counts(f, b, clock, x.delay) {
					t.Errorf("P16.1: height %d, clock %d, delay %d: it doesn't count", height, clock, x.delay)
				}
			}
			for _, clock := range []int{first - 1, math.MinInt} {
				if clock < first && Counts(f, b, clock, x.delay) {
					t.Errorf("P16.1: height %d, clock %d, delay %d: it counts", height, clock, x.delay)
				}
			}
		}
	}
}

// P16.1: a height and a delay that are above all numbers together are above any
// clock.
func TestCountsNever(t *testing.T) {
	f := filter.New()
	for more := range 6 {
		b := tipset.Make(over(math.MaxInt-more, 3, "t"))
		for delay := range 8 {
			want := min(delay, 5) <= more
			if got := Counts(f, b, math.MaxInt, delay); got != want {
				t.Errorf("P16.1: the greatest height but %d, delay %d: %t", more, delay, got)
			}
			if more == 0 && Counts(f, b, math.MaxInt-1, delay) || Counts(f, b, math.MinInt, delay) || Counts(f, b, 0, delay) {
				t.Errorf("P16.1: the greatest height but %d, delay %d: it counts", more, delay)
			}
		}
	}
}

// P16.1: the genesis block counts at any clock, unless it is banned.
func TestCountsGenesis(t *testing.T) {
	g := tipset.Make(header.Genesis())
	other := tipset.Make(over(0, 0, "t"))
	known, second, elsewhere := filter.New(), filter.New(), filter.New()
	known.Add(g)
	second.Add(g, other)
	elsewhere.Add(g, tipset.Make(over(1, 0, "t")), tipset.Make(over(1, 0, "u")), tipset.Make(over(0, 1, "t")))
	for _, clock := range []int{math.MinInt, -6, -1, 0, 1, 5, 1 << 30, math.MaxInt} {
		for _, delay := range []int{math.MinInt, -1, 0, 1, 5, 6, math.MaxInt} {
			for i, f := range []*filter.Filter{filter.New(), known, elsewhere} {
				if !Counts(f, g, clock, delay) {
					t.Errorf("P16.1: %d: the genesis block doesn't count at %d, delay %d", i, clock, delay)
				}
			}
			if Counts(second, g, clock, delay) || Counts(second, other, clock, delay) || Counts(known, other, clock, delay) {
				t.Errorf("P16.1: a block of a genesis miner who says two things counts at %d, delay %d", clock, delay)
			}
			want := clock >= min(max(delay, 0), 5)
			if Counts(filter.New(), other, clock, delay) != want {
				t.Errorf("P16.1: another block of height 0 at %d, delay %d: %t", clock, delay, !want)
			}
		}
	}
}

// P16.1: who says two things counts no more, with none of what he says there,
// whatever family it is of; elsewhere he does.
func TestCountsBanned(t *testing.T) {
	c := begin(t)
	a, b := c.come(over(3, 7, "a")), c.come(over(3, 7, "b"))
	far := c.come(over(3, 8, "a"))
	under := c.come(over(1, 1, "u"))
	apart := c.come(over(3, 8, "a", under))
	alone, above := c.come(over(3, 9, "a")), c.come(over(4, 7, "a"))
	for _, x := range []struct {
		b    tipset.Block
		want bool
	}{{a, false}, {b, false}, {far, false}, {apart, false}, {under, true}, {alone, true}, {above, true}, {tipset.Make(over(3, 9, "x")), false}, {tipset.Make(over(3, 6, "x")), true}} {
		if got := Counts(c.f, x.b, 9, 5); got != x.want {
			t.Errorf("P16.1: %v counts: %t", x.b.Header, got)
		}
	}
	c.wants("two things", 9, 5, a, alone)
	c.wants("two things, of unlike families", 9, 5, apart)
	c.wants("another height", 9, 5, above, above)
}

// P16.1: at clock 0 the genesis is the only front; also below 0, and without
// any other block.
func TestGenesisFront(t *testing.T) {
	c := begin(t)
	root := tipset.Make(header.Genesis())
	look := func(name string, clock, delay int) {
		t.Helper()
		c.wants(name, clock, delay, root, root)
		if all := All(c.d, c.f, clock, delay); !reflect.DeepEqual(all, []tipset.Tipset{tipset.Genesis()}) {
			t.Errorf("P16.1: %s: %d fronts", name, len(all))
		}
	}
	for _, clock := range []int{math.MinInt, -1, 0, 1, math.MaxInt} {
		look("a new dag", clock, 0)
		look("a new dag", clock, 5)
	}
	a := c.come(over(1, 1, "a"))
	c.come(over(2, 2, "b", a))
	for _, clock := range []int{math.MinInt, -1, 0} {
		look("with blocks above the clock", clock, 0)
	}
	look("with a delay", 5, 5)
	c.f.Add(tipset.Make(over(0, 0, "x")))
	c.wants("a genesis miner who says two things", 5, 5, root)
	if all := All(c.d, c.f, 5, 5); all != nil {
		t.Errorf("P16.1: %d fronts, want none", len(all))
	}
	if all := All(c.d, c.f, 6, 5); len(all) != 1 || !all[0].Has(a.ID) {
		t.Errorf("P16.1: %d fronts, want one", len(all))
	}
}

// P16.1, P16.2: the front of a family of none that count, of one, of five, of
// more than five; of one ticket by their names.
func TestOf(t *testing.T) {
	c := begin(t)
	var l []tipset.Block
	for i, ticket := range []string{"m", "k", "z", "a", "ab", "B", "b", "\xff", "aa"} {
		b := c.come(over(4, 10+i, ticket))
		l = append(l, b)
		slices.SortFunc(l, func(a, b tipset.Block) int { return strings.Compare(a.Header.Ticket, b.Header.Ticket) })
		c.wants("too early", 3, 0, b)
		c.wants("too early, with a delay", 8, 5, b)
		c.wants("the first ones", 4, 0, b, l[:min(len(l), 5)]...)
		c.wants("the first ones, with a delay", 9, 5, b, l[:min(len(l), 5)]...)
	}
	if len(l) != 9 || l[0].Header.Ticket != "B" || l[4].Header.Ticket != "b" {
		t.Fatalf("%d blocks, %q", len(l), l[4].Header.Ticket)
	}
	var same []tipset.Block
	for i := range 12 {
		b := c.come(over(6, 10+i, "t"))
		same = append(same, b)
		slices.SortFunc(same, func(a, b tipset.Block) int { return strings.Compare(string(a.ID[:]), string(b.ID[:])) })
		c.wants("of one ticket", 6, 0, b, same[:min(len(same), 5)]...)
	}
	low := c.come(over(6, 40, "s"))
	c.wants("a lesser ticket", 6, 0, low, append(slices.Clone(same[:4]), low)...)
	c.wants("of other families nothing", 6, 0, l[0], l[:5]...)
}

// P16.1: blocks of another power, or of other parents, are another family's.
func TestFamiliesApart(t *testing.T) {
	c := begin(t)
	a, b := c.come(over(2, 1, "a")), c.come(over(2, 2, "b"))
	h := over(2, 3, "c")
	h.Power = 3
	other := c.come(h)
	x, y := c.come(over(4, 1, "a", a)), c.come(over(4, 2, "b", a, b))
	high := c.come(over(5, 2, "c", a, b))
	c.wants("power 2", 9, 0, a, a, b)
	c.wants("power 3", 9, 0, other, other)
	c.wants("over one", 9, 0, x, x)
	c.wants("over both", 9, 0, y, y)
	c.wants("higher", 9, 0, high, high)
}

// P16.1: with what is said twice gone, those behind it come in.
func TestOthersComeIn(t *testing.T) {
	c := begin(t)
	var l []tipset.Block
	for i, ticket := range []string{"a", "b", "c", "d", "e", "f", "g"} {
		l = append(l, c.come(over(2, i, ticket)))
	}
	c.wants("at first", 2, 0, l[0], l[:5]...)
	twice := c.come(over(2, 1, "zz"))
	c.wants("the second one gone", 2, 0, twice, l[0], l[2], l[3], l[4], l[5])
	c.come(over(2, 5, "0"))
	c.wants("the sixth one gone", 2, 0, twice, l[0], l[2], l[3], l[4], l[6])
	c.come(over(2, 1, "zzz"))
	c.wants("a third thing", 2, 0, twice, l[0], l[2], l[3], l[4], l[6])
	c.come(over(2, 0, "yy", c.come(over(1, 0, "under"))))
	c.wants("by what is said in another family", 2, 0, twice, l[2], l[3], l[4], l[6])
	for i := range 7 {
		h := over(2, i, "yyy")
		h.Salt = 1
		c.come(h)
	}
	c.wants("all of them", 2, 0, twice)
	if all := All(c.d, c.f, 2, 0); len(all) != 1+1 { // the genesis, and what is under another one
		t.Errorf("P16.1: %d fronts", len(all))
	}
}

// P16.1: a text that is no family of a block that is there has no front.
func TestNoFamily(t *testing.T) {
	c := begin(t)
	a := c.come(over(2, 1, "a"))
	family := a.Header.Family()
	for _, f := range []string{
		"", "x", family[:len(family)-1], family + "\x00", "\x00" + family, over(3, 1, "a").Family(), over(2, 1, "a", a).Family(),
		header.Key(a.ID), strings.Repeat("\xff", 1<<16),
	} {
		if x, is := Of(c.d, c.f, f, 9, 0); is || !reflect.DeepEqual(x, tipset.Tipset{}) {
			t.Errorf("P16.1: the front of %x: %v", f, x)
		}
	}
}

// P16.1: all fronts stand in the order of their Families, of which those that
// have none are left out.
func TestAll(t *testing.T) {
	c := begin(t)
	var l []tipset.Block
	for i := range 40 {
		height := 1 + 37*i%300
		b := c.come(over(height, i, "t"))
		l = append(l, b)
		if i%4 == 0 {
			c.come(over(height, i, "u")) // what is said twice there
		}
		if i%3 == 0 {
			l = append(l, c.come(over(height, 41+i%20, "s")))
			l = append(l, c.come(over(height+300, i, "s", b)))
		}
	}
	for _, clock := range []int{-1, 0, 1, 37, 38, 150, 299, 305, 400, 700, math.MaxInt} {
		var want []tipset.Tipset
		for _, family := range c.d.Families() {
			x, is := Of(c.d, c.f, family, clock, 2)
			if is {
				want = append(want, x)
			}
		}
		all := All(c.d, c.f, clock, 2)
		if !reflect.DeepEqual(all, want) {
			t.Errorf("P16.1: clock %d: %d fronts, want %d", clock, len(all), len(want))
		}
		if !slices.IsSortedFunc(all, func(a, b tipset.Tipset) int {
			return strings.Compare(a.Blocks()[0].Header.Family(), b.Blocks()[0].Header.Family())
		}) {
			t.Errorf("P16.1: clock %d: fronts aren't in the order of Families", clock)
		}
		for _, b := range l {
			x, is := c.front(b, clock, 2)
			there := slices.ContainsFunc(all, func(y tipset.Tipset) bool { return y.Key() == x.Key() })
			if is != there {
				t.Errorf("P16.1: clock %d: a front: %t, among all: %t", clock, is, there)
			}
		}
	}
	if all := All(c.d, c.f, math.MaxInt, 5); len(all) < 30 || len(all) >= len(c.d.Families()) {
		t.Errorf("P16.1: %d fronts of %d families", len(all), len(c.d.Families()))
	}
}

// anyChain answers a chain of any blocks, of few miners, of whom some say two
// things.
func anyChain(t *testing.T, r *rand.Rand, blocks int) (chain, []tipset.Block) {
	c := begin(t)
	l := []tipset.Block{tipset.Make(header.Genesis())}
	for range blocks {
		under := l[r.Intn(min(len(l), 12))]
		parents := []tipset.Block{under}
		for _, b := range c.d.Family(under.Header.Family()) {
			if b.Header.Miner != under.Header.Miner && len(parents) == 1 && r.Intn(3) == 0 {
				parents = append(parents, b)
			}
		}
		h := over(under.Header.Height+1+r.Intn(3), r.Intn(30), string([]byte{"abc"[r.Intn(3)]}), parents...)
		h.Salt = r.Intn(20) / 19
		if c.d.Check(h) == api.OK {
			l = append(l, c.come(h))
		}
	}
	return c, l
}

// plain tells by plain means whether a block counts.
func plain(l []tipset.Block, b tipset.Block, clock, delay int) bool {
	for _, x := range l {
		if x.ID != b.ID && x.Header.Height == b.Header.Height && x.Header.Miner == b.Header.Miner {
			return false
		}
	}
	return b.ID == header.Root() || b.Header.Height+delay <= clock
}

// before tells whether a block stands ahead of another one.
func before(a, b tipset.Block) bool {
	return a.Header.Ticket+string(a.ID[:]) < b.Header.Ticket+string(b.ID[:]) // tickets of one letter
}

// P16.1, P16.2: of any blocks those count that plain means let; each one that
// does is in its family's front, or five that stand ahead of it are; nothing
// else is in it.
func TestAnyBlocks(t *testing.T) {
	full, banned, late := 0, 0, 0
	for seed := range int64(6) {
		c, l := anyChain(t, rand.New(rand.NewSource(seed)), 250)
		for _, delay := range []int{0, 1, 5} {
			for clock := -1; clock < 20; clock += 3 {
				for _, b := range l {
					counts := plain(l, b, clock, delay)
					if Counts(c.f, b, clock, delay) != counts {
						t.Fatalf("P16.1: %v counts: %t, want %t", b.Header, !counts, counts)
					}
					x, is := c.front(b, clock, delay)
					ahead := 0
					for _, y := range x.Blocks() {
						if !plain(l, y, clock, delay) || y.Header.Family() != b.Header.Family() {
							t.Fatalf("P16.1: %v is in the front of %v", y.Header, b.Header)
						}
						if before(y, b) {
							ahead++
						}
					}
					switch {
					case counts && (!is || !x.Has(b.ID) && ahead != 5):
						t.Fatalf("P16.2: %v isn't in its front, of %d blocks", b.Header, len(x.Blocks()))
					case counts && !x.Has(b.ID):
						full++
					case !counts && x.Has(b.ID):
						t.Fatalf("P16.1: %v is in its front", b.Header)
					case !counts && plain(l, b, math.MaxInt-5, 0):
						late++
					case !counts:
						banned++
					}
				}
			}
		}
	}
	if full < 100 || banned < 100 || late < 100 {
		t.Errorf("%d behind five, %d banned, %d late", full, banned, late)
	}
}

// P16.3: from the clock on that a family's height and the delay have reached,
// its front is the same; so are all fronts from the highest one's on.
func TestLater(t *testing.T) {
	c, l := anyChain(t, rand.New(rand.NewSource(16)), 250)
	changed, highest := 0, 0
	for _, b := range l {
		height := b.Header.Height
		highest = max(highest, height)
		for delay := range 7 {
			first := height + min(delay, 5)
			x, is := c.front(b, first, delay)
			for _, clock := range []int{first + 1, first + 2, first + 5, first + 6, 1 << 30, math.MaxInt} {
				if y, later := c.front(b, clock, delay); !reflect.DeepEqual(x, y) || is != later {
					t.Fatalf("P16.3: height %d, delay %d: at clock %d another front", height, delay, clock)
				}
			}
			if y, sooner := c.front(b, first-1, delay); sooner && !y.Has(header.Root()) {
				t.Fatalf("P16.1: height %d, delay %d: a front at clock %d", height, delay, first-1)
			}
			if is && height > 0 {
				changed++
			}
		}
	}
	if changed < 100 {
		t.Fatalf("%d fronts", changed)
	}
	all := All(c.d, c.f, highest+5, 5)
	for _, clock := range []int{highest + 6, 1 << 40, math.MaxInt} {
		if !reflect.DeepEqual(All(c.d, c.f, clock, 5), all) || !reflect.DeepEqual(All(c.d, c.f, clock, 0), all) {
			t.Errorf("P16.3: at clock %d other fronts", clock)
		}
	}
}

// P16.3: the greatest height that may be, and the greatest delay.
func TestGreatest(t *testing.T) {
	c := begin(t)
	a, b := c.come(over(api.MaxHeight, 1, "a")), c.come(over(api.MaxHeight, 2, "b"))
	c.wants("the greatest height, delay 0, below", api.MaxHeight-1, 0, a)
	c.wants("the greatest height, delay 0", api.MaxHeight, 0, a, a, b)
	c.wants("the greatest height, delay -1", api.MaxHeight, -1, a, a, b)
	c.wants("the greatest height, delay 5, below", api.MaxHeight+4, 5, a)
	c.wants("the greatest height, delay 5", api.MaxHeight+5, 5, a, a, b)
	c.wants("the greatest height, delay 6", api.MaxHeight+5, 6, a, a, b)
	c.wants("the greatest height, the greatest delay, below", api.MaxHeight+4, math.MaxInt, a)
	c.wants("the greatest height, the greatest delay", api.MaxHeight+5, math.MaxInt, a, a, b)
	c.wants("the least delay", api.MaxHeight, math.MinInt, a, a, b)
	c.wants("the greatest clock", math.MaxInt, math.MaxInt, a, a, b)
	c.wants("the least clock", math.MinInt, math.MinInt, a)
	c.wants("the least clock, the greatest delay", math.MinInt, math.MaxInt, a)
}

// P16.1: whatever order blocks come in, the fronts are the same; asked again,
// too.
func TestOrders(t *testing.T) {
	r := rand.New(rand.NewSource(61))
	first, l := anyChain(t, r, 150)
	want := All(first.d, first.f, 9, 1)
	for range 10 {
		c := begin(t)
		left := slices.Clone(l[1:])
		r.Shuffle(len(left), func(i, j int) { left[i], left[j] = left[j], left[i] })
		for c.d.Len() < first.d.Len() {
			for _, b := range left {
				if c.d.Add(b.Header) == api.OK {
					c.f.Add(b)
				}
			}
		}
		if all := All(c.d, c.f, 9, 1); !reflect.DeepEqual(all, want) || !reflect.DeepEqual(All(c.d, c.f, 9, 1), want) {
			t.Fatalf("P16.1: %d fronts, want %d", len(all), len(want))
		}
	}
}

// P16.1: no call changes the dag, the filter or the block, and no answer shares
// memory with another one.
func TestMemory(t *testing.T) {
	c := begin(t)
	a, b := c.come(over(2, 1, "b")), c.come(over(2, 2, "a"))
	c.come(over(2, 3, "c"))
	c.come(over(2, 3, "d"))
	d, f := c.d.Clone(), c.f.Clone()
	x, _ := c.front(a, 2, 0)
	x.Blocks()[0].Header.Parents[0] = api.ID{9}
	all := All(c.d, c.f, 2, 0)
	all[0], all[1] = all[1], tipset.Tipset{}
	for _, l := range All(c.d, c.f, 2, 0) {
		l.Blocks()[0].Header.Parents = nil
	}
	Counts(c.f, a, 2, 0)
	if !reflect.DeepEqual(a, tipset.Make(over(2, 1, "b"))) || !reflect.DeepEqual(c.d, d) || !reflect.DeepEqual(c.f, f) {
		t.Error("P16.1: something is changed")
	}
	c.wants("again", 2, 0, a, a, b)
}

// P1: also of a filter that doesn't know the dag's blocks, and of blocks and
// numbers of anything, each call ends; beside a false there is nothing.
func TestAnyArguments(t *testing.T) {
	c := begin(t)
	a := c.come(over(2, 1, "a"))
	h := over(2, 1, "b")
	twice := c.come(h)
	empty := filter.New()
	if x, is := Of(c.d, empty, h.Family(), 9, 0); is || !x.Zero() {
		t.Errorf("P1: a front of two blocks of one miner: %v", x)
	}
	if all := All(c.d, empty, 9, 0); len(all) != 1 {
		t.Errorf("P1: %d fronts", len(all))
	}
	numbers := []int{math.MinInt, math.MinInt + 5, -1, 0, 1, 5, 6, math.MaxInt - 5, math.MaxInt}
	for _, clock := range numbers {
		for _, delay := range numbers {
			for _, height := range numbers {
				odd := tipset.Block{ID: api.ID{7}, Header: header.Header{Height: height, Miner: height, Parents: make([]api.ID, 9)}}
				nearest := min(max(delay, 0), 5)
				want := height <= clock && uint64(clock)-uint64(height) >= uint64(nearest)
				if got := Counts(empty, odd, clock, delay); got != want {
					t.Errorf("P1: height %d, clock %d, delay %d: %t", height, clock, delay, got)
				}
			}
			if x, is := c.front(a, clock, delay); is || !x.Zero() {
				t.Errorf("P1: clock %d, delay %d: %v", clock, delay, x)
			}
			if all := All(c.d, c.f, clock, delay); len(all) != 1 || all[0].Key() != tipset.Genesis().Key() {
				t.Errorf("P1: clock %d, delay %d: %d fronts", clock, delay, len(all))
			}
			Counts(c.f, tipset.Block{}, clock, delay)
			Counts(c.f, twice, clock, delay)
		}
	}
}
