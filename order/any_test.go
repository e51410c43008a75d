package order

import (
	"math/rand"
	"slices"
	"testing"

	"coxswain/api"
	"coxswain/cert"
	"coxswain/command"
	"coxswain/dag"
	"coxswain/header"
	"coxswain/path"
	"coxswain/state"
	"coxswain/table"
	"coxswain/tipset"
)

// source is where headers, clocks and the certificates of one chain come from.
type source struct {
	r *rand.Rand
	l []header.Header
}

// parents answers one to three headers that may stand beside one another; none:
// the genesis.
func (x *source) parents() []header.Header {
	if len(x.l) == 0 || x.r.Intn(8) == 0 {
		return nil
	}
	l := []header.Header{x.l[len(x.l)-1-x.r.Intn(min(len(x.l), 8))]}
	for _, h := range x.l {
		alone := !slices.ContainsFunc(l, func(y header.Header) bool { return y.Miner == h.Miner })
		if len(l) < 3 && alone && h.Family() == l[0].Family() && x.r.Intn(2) == 0 {
			l = append(l, h)
		}
	}
	return l
}

// header answers a new header, which mostly may come in.
func (x *source) header() header.Header {
	parents := x.parents()
	height := 1 + x.r.Intn(20)/14 - x.r.Intn(30)/29
	if len(parents) > 0 {
		height += parents[0].Height
	}
	h := over(max(height, 1), x.r.Intn(8), 1+x.r.Intn(4), string(rune('a'+x.r.Intn(3))), parents...)
	h.Salt = x.r.Intn(2)
	h.Power = []uint64{2, 2, 2, 300}[x.r.Intn(4)]
	x.l = append(x.l, h)
	return h
}

// certs answers certificates, one behind the other, up to some tipset of the
// headers; each of them may be accepted once all of these are there.
func (x *source) certs(c state.Config) []command.Command {
	d := dag.New()
	for _, h := range x.l {
		d.Add(h)
	}
	p := path.New(d, 9)
	families := d.Families()
	top, e := tipset.New(d.Family(families[x.r.Intn(len(families))])[0])
	if e != api.OK {
		return nil
	}
	_, way := p.Between(tipset.Genesis(), top)
	var l []command.Command
	base, t, _ := key(), table.Table{}, 0
	t, _ = table.New(c.Table...)
	for _, final := range append([]tipset.Tipset{tipset.Genesis()}, way...) {
		if x.r.Intn(3) == 0 {
			continue
		}
		y := cert.Cert{Instance: len(l), Base: base, Final: final.Key()}
		for _, entry := range t.Entries() {
			y.Signers = append(y.Signers, entry.Miner)
		}
		if x.r.Intn(2) == 0 {
			y.Change = []table.Entry{{Miner: x.r.Intn(6), Power: 1 + x.r.Intn(3)}}
		}
		t, _ = y.Next(t)
		base = y.Final
		l = append(l, command.Cert{Bytes: y.Bytes(), Right: true})
	}
	return l
}

// refused answers what is refused wherever it stands: bytes that are none, what
// isn't right, marks of no key, and no commands.
func (x *source) refused() command.Command {
	h := x.l[x.r.Intn(len(x.l))]
	switch x.r.Intn(12) {
	case 0:
		return command.Block{Bytes: h.Bytes()}
	case 1:
		return command.Block{Bytes: h.Bytes()[1:], Right: true}
	case 2:
		h.Wins = 16
		return command.Block{Bytes: h.Bytes(), Right: true}
	case 3:
		return command.Block{Bytes: header.Genesis().Bytes(), Right: true}
	case 4:
		return command.Cert{Bytes: linked(0, key(), key(h)).Bytes()}
	case 5:
		return command.Cert{Bytes: linked(0, key(), "").Bytes(), Right: true}
	case 6:
		return command.Cert{Bytes: linked(0, key(h), key(h)).Bytes(), Right: true} // its Base never is final at first
	case 7:
		return command.Clock{Epoch: -x.r.Intn(9)}
	case 8:
		return command.Clock{Epoch: 1<<30 + 1}
	case 9:
		return command.Mark{Key: []string{"", "?", key(h)[1:], key(h) + key(h)}[x.r.Intn(4)]}
	case 10:
		return command.Unmark{}
	}
	return nil
}

// picks answers so many picks.
func (x *source) picks(n int) []int {
	var l []int
	for range n {
		l = append(l, x.r.Intn(2001)-1000)
	}
	return l
}

// told answers headers, some of which are wanting for good, clocks, and the
// certificates of one chain.
func (x *source) told(c state.Config) []command.Command {
	var l []command.Command
	for range 5 + x.r.Intn(35) {
		if h := x.header(); x.r.Intn(12) > 0 {
			l = append(l, block(h))
		}
	}
	for range x.r.Intn(5) {
		l = append(l, command.Clock{Epoch: x.r.Intn(2 * len(x.l))})
	}
	if x.r.Intn(3) > 0 {
		l = append(l, command.Clock{Epoch: 2 * len(x.l)})
	}
	return append(l, x.certs(c)...)
}

// P27.2, P6: any headers, clocks and certificates of one chain, in any orders,
// some of them again, with what is refused between: the Sets are the same, and
// what is final is.
func TestAnyOrder(t *testing.T) {
	seen := map[string]int{}
	heads := 0
	for seed := range int64(150) {
		x := &source{r: rand.New(rand.NewSource(seed))}
		c := state.Config{Delay: x.r.Intn(3), Orphans: 64, Holds: 64, Waits: 64, Cache: x.r.Intn(9)}
		for miner := range 1 + x.r.Intn(4) {
			c.Table = append(c.Table, table.Entry{Miner: miner, Power: 1 + x.r.Intn(3)})
		}
		l := x.told(c)
		first, _, e := Run(c, l)
		if e != api.OK {
			t.Fatalf("Run: %d", e)
		}
		sets := Sets(first)
		for range 12 {
			m := Double(l, x.picks(x.r.Intn(20)))
			for range x.r.Intn(12) {
				m = append(m, x.refused())
			}
			m = Shuffle(m, x.picks(len(m)))
			s, _, e := Run(c, m)
			if e != api.OK || Sets(s) != sets || s.Final().Key() != first.Final().Key() || !Converges(c, l, m) || !Converges(c, m, Sound(m)) {
				t.Fatalf("P27.2: seed %d: %x, wanted %x", seed, Sets(s), sets)
			}
			if s.Head().Key() != first.Head().Key() {
				heads++
			}
		}
		for word, n := range map[string]int{
			"blocks": first.Dag().Len() / 5, "orphans": len(first.Orphans()), "holds": len(first.Holds()), "certs": first.Chain().Next() / 2,
			"waiting": len(first.Chain().Waiting()), "pairs": len(first.Filter().Pairs()), "height": first.Head().Height() / 4,
		} {
			if n > 0 {
				seen[word]++
			}
		}
	}
	for _, word := range []string{"blocks", "orphans", "holds", "certs", "waiting", "pairs", "height"} {
		if seen[word] < 10 {
			t.Errorf("only %d states have %s", seen[word], word)
		}
	}
	if heads == 0 {
		t.Errorf("no heads of one weight are unlike")
	}
}

// orders goes through all orders of a list.
func orders(l []command.Command, each func(m []command.Command)) {
	if len(l) == 0 {
		each(nil)
		return
	}
	for i := range l {
		orders(slices.Delete(slices.Clone(l), i, i+1), func(m []command.Command) { each(append(slices.Clone(m), l[i])) })
	}
}

// P27.2, P6: every order of a few: blocks of one tipset, one of the next one, a
// header that is held for good, clocks, and two certificates.
func TestEveryOrder(t *testing.T) {
	a, b := over(1, 1, 5, "a"), over(1, 2, 1, "b")
	c := over(2, 3, 1, "c", a, b)
	l := []command.Command{block(a), block(b), block(c), command.Clock{Epoch: 2}, command.Clock{Epoch: 4}, link(0, key(), key(a, b)), link(1, key(a, b), key(c))}
	s := come(t, l[3], l[4], l[0], l[1], l[2], l[5], l[6])
	if s.Final().Key() != key(c) || s.Dag().Len() != 4 {
		t.Fatal("what is told isn't as it should be")
	}
	want, n := Sets(s), 0
	orders(l, func(m []command.Command) {
		s, _, e := Run(roomy(), m)
		if e != api.OK || Sets(s) != want || s.Final().Key() != key(c) || s.Head().Key() != key(c) {
			t.Fatalf("P27.2: %v: %x, wanted %x", m, Sets(s), want)
		}
		n++
	})
	if n != 5040 {
		t.Errorf("%d orders", n)
	}
}
