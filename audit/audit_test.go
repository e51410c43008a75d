package audit

import (
	"math/big"
	"math/rand"
	"slices"
	"strings"
	"testing"

	"coxswain/api"
	"coxswain/cert"
	"coxswain/command"
	"coxswain/dag"
	"coxswain/front"
	"coxswain/gain"
	"coxswain/header"
	"coxswain/nat"
	"coxswain/path"
	"coxswain/state"
	"coxswain/table"
	"coxswain/tipset"
)

// roomy answers a config of room enough: miner 0 signs alone.
func roomy() state.Config {
	return state.Config{Orphans: 64, Holds: 64, Waits: 64, Cache: 9, Table: []table.Entry{{Miner: 0, Power: 1}}}
}

// at answers a new state whose clock is there.
func at(t *testing.T, clock int) *state.State {
	t.Helper()
	s, e := state.New(roomy())
	if e != api.OK {
		t.Fatalf("New: %d", e)
	}
	does(t, s, command.Clock{Epoch: clock})
	return s
}

// does has a state do what it isn't to refuse.
func does(t *testing.T, s *state.State, l ...command.Command) {
	t.Helper()
	for _, c := range l {
		if r := s.Apply(c); r.Code != api.OK {
			t.Fatalf("%s %v: %v", command.Name(c), c, r)
		}
	}
}

// over answers a header over a tipset of these (none: the genesis).
func over(height, miner, wins int, ticket string, parents ...header.Header) header.Header {
	h := header.Header{Height: height, Miner: miner, Ticket: ticket, Wins: wins, Power: 2}
	h.Parents, _ = header.Names(key(parents...))
	return h
}

// key answers the key of headers (of none: that of the genesis).
func key(l ...header.Header) string {
	if len(l) == 0 {
		return header.Key(header.Root())
	}
	var names []api.ID
	for _, h := range l {
		names = append(names, h.ID())
	}
	return header.Key(names...)
}

// block, told and holdTo answer the commands that tell of a header, of a
// certificate that miner 0 signs, and of a mark.
func block(h header.Header) command.Command {
	return command.Block{Bytes: h.Bytes(), Right: true}
}

func told(instance int, base, final string) command.Command {
	return command.Cert{Bytes: cert.Cert{Instance: instance, Base: base, Final: final, Signers: []int{0}}.Bytes(), Right: true}
}

func holdTo(l ...header.Header) command.Command { return command.Mark{Key: key(l...)} }

// dagOf answers a dag of headers, each behind its parents.
func dagOf(t *testing.T, l ...header.Header) *dag.Dag {
	t.Helper()
	d := dag.New()
	for _, h := range l {
		if e := d.Add(h); e != api.OK {
			t.Fatalf("Add of %v: %d", h, e)
		}
	}
	return d
}

// of answers the tipset of headers that are there.
func of(t *testing.T, d *dag.Dag, l ...header.Header) tipset.Tipset {
	t.Helper()
	x, e := d.Tipset(key(l...))
	if e != api.OK {
		t.Fatalf("Tipset: %d", e)
	}
	return x
}

// keys answers the keys of tipsets.
func keys(l []tipset.Tipset) []string {
	var keys []string
	for _, x := range l {
		keys = append(keys, x.Key())
	}
	return keys
}

// P25.1: what tipsets weigh, by the numbers of layer 4.
func TestWeight(t *testing.T) {
	a, b := over(1, 1, 5, "a"), over(1, 2, 1, "b")
	c := over(4, 1, 5, "c", a)
	e := over(5, 1, 2, "e", a, b)
	e.Power = 1 << 62
	d := dagOf(t, a, b, c, e)
	for _, x := range []struct {
		t    tipset.Tipset
		want string
	}{
		{tipset.Genesis(), "0"}, {of(t, d), "0"}, {tipset.Tipset{}, "0"},
		{of(t, d, a), "384"}, {of(t, d, b), "281"}, {of(t, d, a, b), "409"}, {of(t, d, c), "768"},
		{of(t, d, e), "19455"}, // 409, and 62 * 256 and a fifth of that, the rest cut off
	} {
		if got := Weight(d, x.t).Text(); got != x.want {
			t.Errorf("P25.1: at height %d: %s, wanted %s", x.t.Height(), got, x.want)
		}
	}
	first := Weight(d, of(t, d, a))
	if e := d.Add(over(2, 9, 9, "z", a)); e != api.OK {
		t.Fatal(e)
	}
	if again := Weight(d, of(t, d, a)); again.Cmp(first) != 0 || first.Text() != "384" {
		t.Errorf("P25.1: again: %s", again.Text())
	}
}

// grown answers a dag of some headers, over tipsets of one to three blocks, and
// the keys of many of its tipsets.
func grown(r *rand.Rand, n int) (*dag.Dag, []string) {
	d, keys := dag.New(), []string{header.Key(header.Root())}
	for range n {
		parents, _ := d.Tipset(keys[len(keys)-1-r.Intn(min(len(keys), 8))])
		h := header.Header{Height: parents.Height() + 1 + r.Intn(5)/4, Miner: r.Intn(9), Ticket: string(rune('a' + r.Intn(4))), Wins: 1 + r.Intn(15), Power: 2}
		if r.Intn(3) == 0 {
			h.Power += r.Uint64() % (1 << (1 + r.Intn(62)))
			h.Power = min(h.Power, 1<<62)
		}
		h.Parents, _ = header.Names(parents.Key())
		if d.Add(h) != api.OK {
			continue
		}
		keys = append(keys, key(h))
		family := d.Family(h.Family())
		for i := range family {
			if x, e := tipset.New(family[i:]...); e == api.OK {
				keys = append(keys, x.Key())
			}
		}
	}
	return d, keys
}

// weighs answers what a tipset of a dag weighs, by the library's numbers.
func weighs(d *dag.Dag, key string) *big.Int {
	t, _ := d.Tipset(key)
	if t.Parents() == "" {
		return new(big.Int)
	}
	x, _ := new(big.Int).SetString(gain.Of(t.Power(), t.Wins()).Text(), 10)
	return x.Add(x, weighs(d, t.Parents()))
}

// P25.1: of any tipsets: weights are those of layer 14, however many that one
// keeps; ways are those that it knows.
func TestPaths(t *testing.T) {
	for seed := range int64(60) {
		r := rand.New(rand.NewSource(seed))
		d, keys := grown(r, 40)
		p := path.New(d, r.Intn(6)-1)
		for _, key := range keys {
			x, _ := d.Tipset(key)
			if got := Weight(d, x); got.Cmp(p.Weight(x)) != 0 || got.Text() != weighs(d, key).String() {
				t.Fatalf("P25.1: seed %d: %s, wanted %s", seed, got.Text(), p.Weight(x).Text())
			}
			for range 20 {
				other := keys[r.Intn(len(keys))]
				from, _ := d.Tipset(other)
				if got := Reaches(d, x, other); got != p.Descends(x, from) {
					t.Fatalf("P25.1: seed %d: Reaches %v", seed, got)
				}
			}
		}
	}
}

// P25.1: a tipset reaches itself and all behind it, and nothing else.
func TestReaches(t *testing.T) {
	a, b := over(1, 1, 5, "a"), over(1, 2, 1, "b")
	c := over(2, 1, 5, "c", a, b)
	e := over(3, 1, 5, "e", c)
	d := dagOf(t, a, b, c, e)
	none := over(2, 5, 5, "n", a)
	for n, x := range []struct {
		t    tipset.Tipset
		key  string
		want bool
	}{
		{of(t, d, e), key(e), true}, {of(t, d, e), key(c), true}, {of(t, d, e), key(a, b), true}, {of(t, d, e), key(), true},
		{of(t, d, c), key(c), true}, {of(t, d, a, b), key(b, a), true}, {of(t, d, a), key(), true}, {tipset.Genesis(), key(), true},
		{of(t, d, c), key(e), false}, {of(t, d, a, b), key(c), false}, {tipset.Genesis(), key(a), false}, {of(t, d), key(a, b), false},
		{of(t, d, e), key(a), false}, {of(t, d, e), key(b), false}, {of(t, d, a), key(a, b), false}, {of(t, d, a, b), key(a), false}, {of(t, d, a), key(b), false},
		{of(t, d, e), key(none), false}, {of(t, d, e), key(none, a), false}, {of(t, d, e), "", false}, {tipset.Genesis(), "", false},
		{of(t, d, e), "?", false}, {of(t, d, e), key(e)[:31], false}, {of(t, d, e), key(e) + "\x00", false}, {of(t, d, e), key(e) + key(c), false},
		{of(t, d, e), strings.Repeat("x", 5000), false}, {tipset.Tipset{}, key(), false}, {tipset.Tipset{}, key(e), false},
	} {
		if got := Reaches(d, x.t, x.key); got != x.want {
			t.Errorf("P25.1: case %d: %v", n, got)
		}
	}
}

// P1, P25.1: a long chain ends, too.
func TestLong(t *testing.T) {
	const long = 20000
	d := dag.New()
	var last header.Header
	for i := range long {
		var parents []header.Header
		if i > 0 {
			parents = append(parents, last)
		}
		last = over(i+1, i%64, 5, "t", parents...)
		if e := d.Add(last); e != api.OK {
			t.Fatal(e)
		}
	}
	x := of(t, d, last)
	if got := Weight(d, x); got.Cmp(nat.Of(384*long)) != 0 || !Reaches(d, x, key()) || Reaches(d, x, "?") {
		t.Errorf("P25.1: a long chain weighs %s", got.Text())
	}
}

// are tells of candidates that are others than those that are wanted.
func are(t *testing.T, s *state.State, fronts []string, behind ...string) {
	t.Helper()
	order := map[string]int{}
	for i, x := range front.All(s.Dag(), s.Filter(), s.Clock(), s.Config().Delay) {
		order[x.Key()] = i
	}
	want := slices.Clone(fronts)
	slices.SortFunc(want, func(a, b string) int { return order[a] - order[b] }) // the order of layer 16 is by families
	want = append(want, behind...)
	if got := keys(Candidates(s)); !slices.Equal(got, want) {
		t.Errorf("P25.1: candidates %x, wanted %x", got, want)
	}
}

// P25.1: fronts, ahead of what is final, ahead of what is marked; one that is
// two of these stands twice; those that don't reach both are left out.
func TestCandidates(t *testing.T) {
	s := at(t, 20)
	root := key()
	are(t, s, []string{root}, root) // the genesis is a front, and final; nothing is marked
	a, b, f := over(1, 1, 1, "a"), over(1, 2, 9, "b"), over(4, 3, 9, "f")
	c := over(2, 1, 1, "c", a)
	e := over(3, 1, 1, "e", c)
	does(t, s, block(a), block(b), block(c), block(e), block(f))
	are(t, s, []string{root, key(a, b), key(c), key(e), key(f)}, root) // of a and b both are one front
	does(t, s, holdTo(c))
	are(t, s, []string{key(c), key(e)}, key(c)) // the genesis doesn't reach what is marked, though it is final
	does(t, s, holdTo(a))
	are(t, s, []string{key(c), key(e)}, key(a)) // that is no front, but what is marked
	does(t, s, told(0, root, key(c)))
	are(t, s, []string{key(c), key(e)}, key(c)) // what is marked doesn't reach what is final
	does(t, s, holdTo(e))
	are(t, s, []string{key(e)}, key(e))
	does(t, s, holdTo(c))
	are(t, s, []string{key(c), key(e)}, key(c), key(c))
	does(t, s, command.Unmark{})
	are(t, s, []string{key(c), key(e)}, key(c))
	does(t, s, told(1, key(c), key(e)))
	are(t, s, []string{key(e)}, key(e))
	does(t, s, block(over(3, 1, 2, "q"))) // now e doesn't count
	are(t, s, nil, key(e))
	does(t, s, holdTo(a))
	are(t, s, nil, key(e))
}

// P25.1: with a delay, and a clock, fronts are those of both.
func TestDelay(t *testing.T) {
	c := roomy()
	c.Delay = 2
	s, _ := state.New(c)
	a := over(1, 1, 1, "a")
	does(t, s, command.Clock{Epoch: 2}, block(a))
	are(t, s, []string{key()}, key())
	if May(s, of(t, s.Dag(), a)) || !May(s, tipset.Genesis()) {
		t.Errorf("P25.1: a block that doesn't count yet may lead")
	}
	does(t, s, holdTo(a))
	are(t, s, nil, key(a)) // what is marked needn't count
	if !May(s, of(t, s.Dag(), a)) || May(s, tipset.Genesis()) {
		t.Errorf("P25.1: what is marked mayn't lead")
	}
	does(t, s, command.Unmark{}, command.Clock{Epoch: 3})
	are(t, s, []string{key(), key(a)}, key())
}

// P25.1, P25.3: the head may be, and one as heavy; not a lighter one, nor a
// heavier one that is no candidate.
func TestMay(t *testing.T) {
	s := at(t, 20)
	a, b := over(1, 1, 5, "b"), over(2, 2, 5, "a")
	c, e, f := over(2, 4, 1, "c", a), over(3, 5, 1, "e", a), over(2, 6, 9, "f", b)
	may := func(l []header.Header, want bool) {
		t.Helper()
		if got := May(s, of(t, s.Dag(), l...)); got != want {
			t.Errorf("P25.1: May: %v, the head is %x", got, s.Head().Key())
		}
	}
	one := func(h header.Header) []header.Header { return []header.Header{h} }
	may(nil, true)
	does(t, s, block(a))
	may(nil, false)
	may(one(a), true)
	does(t, s, block(b))
	may(one(a), true)
	may(one(b), true) // as heavy as the head
	may(nil, false)
	does(t, s, block(c), block(e))
	may(one(a), false)
	may(one(b), false)
	may(one(c), true)
	may(one(e), true) // weighs as much
	if s.Dag().Has(f.ID()) || May(s, tipset.Tipset{}) {
		t.Errorf("P25.1: a zero tipset may lead")
	}
	g := over(2, 7, 1, "g", a)
	does(t, s, block(g)) // stands beside c
	may(one(c), false)   // its key is no candidate's now
	may(one(g), false)
	may([]header.Header{c, g}, true)
	may(one(e), false)
	does(t, s, holdTo(b))
	may([]header.Header{c, g}, false) // heavier, but no candidate
	may(one(b), true)
	may(nil, false)
	does(t, s, told(0, key(), key(b)), command.Unmark{})
	may([]header.Header{c, g}, false)
	may(one(b), true)
}

// Rule 5: what is answered shares nothing with the state, nor with one another.
func TestMemory(t *testing.T) {
	s := at(t, 20)
	a := over(1, 1, 5, "a")
	does(t, s, block(a), holdTo(a))
	before := keys(Candidates(s))
	l := Candidates(s)
	for i := range l {
		blocks := l[i].Blocks()
		blocks[0].Header.Parents[0], blocks[0].ID = api.ID{9}, api.ID{8}
		l[i] = tipset.Tipset{}
	}
	l = append(l[:0], tipset.Genesis(), tipset.Genesis())
	if got := keys(Candidates(s)); len(l) != 2 || !slices.Equal(got, before) || s.Marked().Key() != key(a) || s.Final().Key() != key() || len(Problems(s)) != 0 {
		t.Errorf("rule 5: candidates %x", got)
	}
}
