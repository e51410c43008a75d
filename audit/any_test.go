package audit

import (
	"math/rand"
	"slices"
	"testing"

	"coxswain/api"
	"coxswain/cert"
	"coxswain/command"
	"coxswain/feed"
	"coxswain/header"
	"coxswain/path"
	"coxswain/state"
	"coxswain/table"
	"coxswain/tipset"
)

// source is where any commands come from, over the headers that it made.
type source struct {
	r *rand.Rand
	l []header.Header
}

// tipset answers one to three headers that may stand beside one another; none:
// the genesis.
func (x *source) tipset() []header.Header {
	if len(x.l) == 0 || x.r.Intn(6) == 0 {
		return nil
	}
	l := []header.Header{x.l[len(x.l)-1-x.r.Intn(min(len(x.l), 12))]}
	for _, h := range x.l {
		alone := !slices.ContainsFunc(l, func(y header.Header) bool { return y.Miner == h.Miner })
		if len(l) < 3 && alone && h.Family() == l[0].Family() && x.r.Intn(3) == 0 {
			l = append(l, h)
		}
	}
	return l
}

// header answers a new header, which mostly may come in.
func (x *source) header() header.Header {
	parents := x.tipset()
	height := 1 + x.r.Intn(20)/12 - x.r.Intn(20)/19
	if len(parents) > 0 {
		height += parents[0].Height
	}
	h := over(max(height, 1), x.r.Intn(8), 1+x.r.Intn(4), string(rune('a'+x.r.Intn(3))), parents...)
	h.Salt = x.r.Intn(2)
	x.l = append(x.l, h)
	return h
}

// cert answers a certificate, which often may be accepted.
func (x *source) cert(s *state.State) cert.Cert {
	c := cert.Cert{Instance: s.Chain().Next() + x.r.Intn(6)/5, Base: s.Chain().Final(), Final: s.Head().Key()}
	if x.r.Intn(2) == 0 {
		c.Final = key(x.tipset()...)
	}
	for miner := range 4 {
		if x.r.Intn(20) > 0 {
			c.Signers = append(c.Signers, miner)
		}
	}
	if x.r.Intn(4) == 0 {
		c.Change = []table.Entry{{Miner: x.r.Intn(4), Power: x.r.Intn(3)}}
	}
	return c
}

// command answers some command, which may be refused.
func (x *source) command(s *state.State) command.Command {
	switch n := x.r.Intn(40); {
	case n < 18:
		return block(x.header())
	case n < 22 && len(x.l) > 0:
		return block(x.l[x.r.Intn(len(x.l))])
	case n < 28:
		return command.Clock{Epoch: max(0, s.Clock()+x.r.Intn(5)-1)}
	case n < 32:
		return command.Cert{Bytes: x.cert(s).Bytes(), Right: x.r.Intn(9) > 0}
	case n < 35:
		return holdTo(x.tipset()...)
	case n < 37:
		return command.Unmark{}
	case n < 39:
		x.header() // that is told later, if ever
		return command.Clock{Epoch: s.Clock() + 1}
	}
	return command.Block{Bytes: "?", Right: true}
}

// config answers a config, of little room or of more.
func (x *source) config() state.Config {
	some := func() int { return []int{0, 1, 3, 64}[x.r.Intn(4)] }
	c := state.Config{Delay: x.r.Intn(3), Orphans: some(), Holds: some(), Waits: some(), Cache: x.r.Intn(9)}
	for miner := range 4 {
		c.Table = append(c.Table, table.Entry{Miner: miner, Power: 1})
	}
	return c
}

// sound tells of a state of which something isn't as it should be, by other
// means than those that are tested: the ways and the weights of layer 14.
func sound(t *testing.T, s *state.State) {
	t.Helper()
	if l := Problems(s); len(l) != 0 {
		t.Fatalf("P25.2: clock %d: %q", s.Clock(), l)
	}
	head, p := s.Head(), path.New(s.Dag(), 0)
	if !May(s, head) {
		t.Fatalf("P25.3: clock %d: what leads mayn't", s.Clock())
	}
	beside := func(x tipset.Tipset) bool {
		return !p.Descends(x, s.Final()) || !s.Marked().Zero() && !p.Descends(x, s.Marked())
	}
	if beside(head) {
		t.Fatalf("P2: clock %d: the head is beside the floor", s.Clock())
	}
	for _, x := range Candidates(s) {
		order, may := p.Weight(x).Cmp(p.Weight(head)), May(s, x)
		if order > 0 || may != (order == 0) {
			t.Fatalf("P25.3: clock %d: of what weighs %s May is %v, the head weighs %s", s.Clock(), p.Weight(x).Text(), may, p.Weight(head).Text())
		}
		if beside(x) {
			t.Fatalf("P25.1: clock %d: a candidate is beside the floor", s.Clock())
		}
	}
}

// kinds tells what there is of a state.
func kinds(s *state.State) []string {
	p := s.Parts()
	var l []string
	for word, n := range map[string]int{
		"blocks": len(p.Blocks), "orphans": len(p.Orphans), "holds": len(p.Holds), "certs": len(p.Certs), "waiting": len(p.Waiting),
		"mark": len(p.Mark), "pairs": len(s.Filter().Pairs()), "pairs more": len(s.Filter().Pairs()) / 3, "candidates": len(Candidates(s)) / 4,
	} {
		if n > 0 {
			l = append(l, word)
		}
	}
	return l
}

// P25.2, P25.3, P2, P3, P5, P7: of no state that any commands come to there is a
// problem; what leads may, and what may weighs as much; what is final is never
// left, neither by what is final then nor by who is told of moves.
func TestAny(t *testing.T) {
	seen := map[string]int{}
	for seed := range int64(120) {
		x := &source{r: rand.New(rand.NewSource(seed))}
		c := x.config()
		s, e := state.New(c)
		if e != api.OK {
			t.Fatalf("New: %d", e)
		}
		f := feed.New(64, s.Head())
		at := s.Head().Key()
		for range 70 {
			from, final, before := s.Head(), s.Final(), keys(Candidates(s))
			r := s.Apply(x.command(s))
			sound(t, s)
			if r.Code != api.OK && !slices.Equal(keys(Candidates(s)), before) {
				t.Fatalf("P7: seed %d: %v changes the candidates", seed, r)
			}
			if !Reaches(s.Dag(), s.Final(), final.Key()) {
				t.Fatalf("P3: seed %d: what was final is left", seed)
			}
			f.Push(s.Paths(), from, s.Head())
			at = follow(t, s, at, final, f.Take(64))
			for _, word := range kinds(s) {
				seen[word]++
			}
			if x.r.Intn(12) == 0 {
				s = other(t, s, x.r.Intn(2) == 0)
			}
		}
	}
	for _, word := range []string{"blocks", "orphans", "holds", "certs", "waiting", "mark", "pairs", "pairs more", "candidates"} {
		if seen[word] < 100 {
			t.Errorf("only %d states have %s", seen[word], word)
		}
	}
}

// follow answers where the head is behind events; what was final ahead of them
// isn't among those that are left.
func follow(t *testing.T, s *state.State, at string, final tipset.Tipset, l []feed.Event) string {
	t.Helper()
	for _, x := range l {
		if left, _ := s.Dag().Tipset(x.Key); x.Kind == feed.Revert && Reaches(s.Dag(), final, left.Key()) {
			t.Fatalf("P5: what is final is left")
		}
	}
	at, fits := feed.Fold(func(key string) string {
		x, _ := s.Dag().Tipset(key)
		return x.Parents()
	}, at, l)
	if !fits || at != s.Head().Key() || !Reaches(s.Dag(), s.Head(), s.Final().Key()) {
		t.Fatalf("P5: who follows is elsewhere")
	}
	return at
}

// other answers a state just like it: a clone, or the one of its parts.
func other(t *testing.T, s *state.State, clone bool) *state.State {
	t.Helper()
	if clone {
		return s.Clone()
	}
	back, e := state.Restore(s.Config(), s.Parts())
	if e != api.OK {
		t.Fatalf("Restore: %d", e)
	}
	sound(t, back)
	return back
}

// P25.2, P25.3: a state of some hundred commands, whose blocks stand one on the
// other, and of powers of any size.
func TestMany(t *testing.T) {
	s := at(t, 1000)
	var last []header.Header
	for i := range 300 {
		h := over(i+1, i%64, 1+i%15, "t", last...)
		h.Power = 1 << (1 + i%62)
		does(t, s, block(h))
		last = []header.Header{h}
	}
	have(t, s)
	if !May(s, s.Head()) || May(s, tipset.Genesis()) || len(Candidates(s)) != 302 {
		t.Errorf("P25.3: the head of a long chain")
	}
	does(t, s, told(0, key(), key(last...)))
	sound(t, s)
	if l := Candidates(s); len(l) != 2 || l[0].Key() != key(last...) || l[1].Key() != key(last...) {
		t.Errorf("P25.1: candidates %x", keys(l))
	}
}
