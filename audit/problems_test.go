package audit

import (
	"slices"
	"testing"

	"coxswain/api"
	"coxswain/cert"
	"coxswain/command"
	"coxswain/header"
	"coxswain/state"
	"coxswain/table"
	"coxswain/tipset"
)

// have tells of problems that are others than those that are wanted.
func have(t *testing.T, s *state.State, want ...string) {
	t.Helper()
	if got := Problems(s); !slices.Equal(got, want) {
		t.Errorf("P25.1: problems %q, wanted %q", got, want)
	}
}

// yes is a view that lets everything: what it lets may be wrong.
type yes struct{}

func (yes) Known(string) api.Errno     { return api.OK }
func (yes) Behind(string, string) bool { return true }
func (yes) Fits(string) bool           { return true }

// force makes a state's chain accept a certificate that a command wouldn't.
func force(t *testing.T, s *state.State, final string) {
	t.Helper()
	c := cert.Cert{Instance: s.Chain().Next(), Base: s.Chain().Final(), Final: final, Signers: []int{0}}
	if accepted, e := s.Chain().Offer(c, yes{}); !accepted || e != api.OK {
		t.Fatalf("Offer: %v, %d", accepted, e)
	}
}

// P25.1: the chapter's example.
func TestNew(t *testing.T) {
	s, _ := state.New(roomy())
	have(t, s)
	have(t, at(t, 1<<30))
}

// P25.1: the head may not be: another one is heavier, or it doesn't descend from
// what is marked, or isn't what is there.
func TestHead(t *testing.T) {
	s := at(t, 20)
	a, b := over(1, 1, 5, "a"), over(2, 2, 5, "b")
	does(t, s, block(a))
	have(t, s)
	s.Dag().Add(b) // nobody asks anew what leads
	have(t, s)     // it weighs as much
	s.Dag().Add(over(2, 3, 5, "c", a))
	have(t, s, "head")
	does(t, s, command.Clock{Epoch: 21})
	have(t, s)
	force(t, s, key(b))
	have(t, s, "head") // it isn't above what is final now
	does(t, s, command.Clock{Epoch: 22})
	have(t, s)
	s.Filter().Add(tipset.Make(over(2, 2, 7, "q"))) // what is final counts no more, but is a candidate
	have(t, s)
	if s.Head().Key() != key(b) || len(Candidates(s)) != 1 {
		t.Errorf("P25.1: candidates %x", keys(Candidates(s)))
	}
}

// P25.1: what is final isn't there: then nothing may lead, and what is marked is
// on no chain with it.
func TestFinal(t *testing.T) {
	a, none := over(1, 1, 5, "a"), over(2, 2, 5, "n")
	for _, final := range []string{key(none), key(a, none)} {
		s := at(t, 20)
		does(t, s, block(a))
		force(t, s, final)
		have(t, s, "head", "final")
		if l := Candidates(s); len(l) != 0 || May(s, s.Head()) || May(s, s.Final()) {
			t.Errorf("P25.1: candidates %x", keys(l))
		}
		marked := at(t, 20)
		does(t, marked, block(a), holdTo(a))
		force(t, marked, final)
		have(t, marked, "head", "final", "mark")
		if l := Candidates(marked); len(l) != 0 {
			t.Errorf("P25.1: candidates %x", keys(l))
		}
	}
	s := at(t, 20)
	x := over(3, 3, 5, "x")
	does(t, s, block(a), block(x))
	force(t, s, key(a, x)) // both are there, but aren't a tipset
	have(t, s, "head", "final")
}

// P25.1: what is marked is beside what is final.
func TestMark(t *testing.T) {
	a, b := over(1, 1, 5, "a"), over(1, 2, 1, "b")
	c := over(2, 1, 5, "c", a)
	for _, x := range []struct {
		mark, final string
		want        []string
	}{
		{key(c), key(a), nil}, {key(a), key(c), nil}, {key(c), key(c), nil}, {key(c), key(), nil}, {key(), key(c), nil},
		{key(b), key(a), []string{"head", "mark"}}, {key(a, b), key(a), []string{"head", "mark"}}, {key(a), key(a, b), []string{"head", "mark"}},
		{key(b), key(c), []string{"head", "mark"}}, {key(c), key(b), []string{"head", "mark"}},
	} {
		s := at(t, 20)
		does(t, s, block(a), block(b), block(c), command.Mark{Key: x.mark})
		have(t, s)
		force(t, s, x.final)
		have(t, s, x.want...)
		if len(x.want) > 0 {
			does(t, s, command.Unmark{})
			have(t, s)
		}
	}
}

// P25.1: a block is above the clock, or its parents are no tipset below it.
func TestBlock(t *testing.T) {
	s := at(t, 20)
	a, b, c := over(1, 1, 5, "a"), over(2, 2, 1, "b"), over(1, 3, 1, "c")
	does(t, s, block(a), block(b), block(c))
	one := func(h header.Header, want bool) {
		t.Helper()
		if got := blockIsOdd(s, state.Parts{Clock: 20, Blocks: []header.Header{a, h}}); got != want {
			t.Errorf("P25.1: %v: %v", h, got)
		}
	}
	one(b, false)
	one(over(20, 4, 1, "d", a), false)
	one(over(21, 4, 1, "d", a), true)
	one(over(2, 4, 1, "d", a, c), false)
	one(over(1, 4, 1, "d", a), true) // not below it
	one(over(2, 4, 1, "d", b), true)
	one(over(1, 4, 1, "d", b), true)
	one(over(3, 4, 1, "d", a, b), true)                       // both are there, but no tipset
	one(over(3, 4, 1, "d", over(1, 7, 1, "?")), true)         // it isn't there
	one(over(3, 4, 1, "d", a, over(1, 7, 1, "?")), true)      // nor is one of these
	one(header.Header{Height: 3, Ticket: "t", Wins: 1}, true) // it has none
	have(t, s)
	s.Dag().Add(over(20, 4, 1, "d", b))
	have(t, s, "head")
	does(t, s, command.Clock{Epoch: 25})
	have(t, s)
	s.Dag().Add(over(26, 4, 1, "d", b))
	have(t, s, "block") // it doesn't count, so the head may be
}

// P25.1: an orphan is above the clock, or has all its parents.
func TestOrphan(t *testing.T) {
	s := at(t, 20)
	a, n := over(1, 1, 5, "a"), over(1, 2, 1, "n")
	m := over(1, 3, 1, "m")
	does(t, s, block(a), block(over(2, 4, 1, "x", a, n, m)))
	one := func(h header.Header, want bool) {
		t.Helper()
		if got := orphanIsNone(s, state.Parts{Clock: 20, Orphans: []header.Header{over(9, 9, 1, "o", n), h}}); got != want {
			t.Errorf("P25.1: %v: %v", h, got)
		}
	}
	one(over(20, 5, 1, "y", n), false)
	one(over(21, 5, 1, "y", n), true)
	one(over(20, 5, 1, "y", n, m), false)
	one(over(20, 5, 1, "y", a), true)
	one(over(20, 5, 1, "y", a, n), false)
	one(over(20, 5, 1, "y"), true)
	have(t, s)
	s.Dag().Add(n)
	have(t, s, "head") // one parent is still wanting
	s.Dag().Add(m)
	have(t, s, "head", "orphan")
	does(t, s, block(over(7, 7, 1, "g")))
	have(t, s)
}

// P25.1: a held header isn't above the clock.
func TestHold(t *testing.T) {
	s := at(t, 20)
	does(t, s, block(over(21, 1, 1, "h")), block(over(1<<30, 1, 1, "h", over(9, 9, 9, "?"))))
	have(t, s)
	for height, want := range map[int]bool{1: true, 19: true, 20: true, 21: false, 1 << 30: false} {
		if got := holdIsDue(s, state.Parts{Clock: 20, Holds: []header.Header{over(30, 2, 1, "i"), over(height, 1, 1, "h")}}); got != want {
			t.Errorf("P25.1: held at %d: %v", height, got)
		}
	}
}

// P25.1: of certificates each has its instance, its base, and a quorum in the
// table that stands then.
func TestCert(t *testing.T) {
	c := roomy()
	c.Table = []table.Entry{{Miner: 0, Power: 1}, {Miner: 1, Power: 1}, {Miner: 2, Power: 1}}
	s, _ := state.New(c)
	root, a, b := key(), key(over(1, 1, 1, "a")), key(over(2, 1, 1, "b"))
	all := []int{0, 1, 2}
	link := func(instance int, base, final string, signers []int, change ...table.Entry) cert.Cert {
		return cert.Cert{Instance: instance, Base: base, Final: final, Signers: signers, Change: change}
	}
	for n, x := range []struct {
		l    []cert.Cert
		want bool
	}{
		{nil, false},
		{[]cert.Cert{link(0, root, a, all)}, false},
		{[]cert.Cert{link(0, root, a, all), link(1, a, b, all), link(2, b, b, all)}, false},
		{[]cert.Cert{link(1, root, a, all)}, true}, // its instance
		{[]cert.Cert{link(0, root, a, all), link(0, a, b, all)}, true},
		{[]cert.Cert{link(0, root, a, all), link(2, a, b, all)}, true},
		{[]cert.Cert{link(0, a, a, all)}, true}, // its base
		{[]cert.Cert{link(0, "", a, all)}, true},
		{[]cert.Cert{link(0, root, a, all), link(1, root, b, all)}, true},
		{[]cert.Cert{link(0, root, a, all), link(1, b, b, all)}, true},
		{[]cert.Cert{link(0, root, a, []int{0, 1})}, true}, // its quorum: two thirds aren't one
		{[]cert.Cert{link(0, root, a, nil)}, true},
		{[]cert.Cert{link(0, root, a, []int{0, 1, 3})}, true},
		{[]cert.Cert{link(0, root, a, all), link(1, a, b, []int{1, 2})}, true},
		{[]cert.Cert{link(0, root, a, all, table.Entry{Miner: 0, Power: 0}), link(1, a, b, []int{1, 2})}, false},
		{[]cert.Cert{link(0, root, a, all, table.Entry{Miner: 0, Power: 0}), link(1, a, b, all)}, false},
		{[]cert.Cert{link(0, root, a, all, table.Entry{Miner: 7, Power: 10}), link(1, a, b, all)}, true},
		{[]cert.Cert{link(0, root, a, all, table.Entry{Miner: 7, Power: 10}), link(1, a, b, []int{7})}, false},
		{[]cert.Cert{link(0, root, a, all, table.Entry{Miner: 7, Power: 10}), link(1, a, b, []int{7}), link(2, b, b, all)}, true}, // the table stays
		{[]cert.Cert{link(0, root, a, all, table.Entry{Miner: 7, Power: 10}), link(1, a, b, []int{7}, table.Entry{Miner: 7, Power: 0}), link(2, b, b, all)}, false},
		{[]cert.Cert{link(0, root, a, all, table.Entry{Miner: -1, Power: 1}), link(1, a, b, all)}, true}, // there is no such table
	} {
		if got := certIsOdd(s, state.Parts{Certs: x.l}); got != x.want {
			t.Errorf("P25.1: certificates %d: %v", n, got)
		}
	}
	have(t, s)
}

// P25.1: the filter's pairs aren't those of the blocks: it knows more, or less.
func TestPair(t *testing.T) {
	a, b, c, e := over(1, 5, 5, "a"), over(2, 1, 1, "b"), over(2, 3, 1, "c"), over(9, 0, 1, "e")
	again := func(h header.Header) header.Header { h.Salt++; return h }
	all := []header.Header{e, b, again(c), c, a, again(e), again(b), again(again(b))}
	s := at(t, 20)
	for _, h := range all {
		does(t, s, block(h))
		have(t, s)
	}
	s.Filter().Add(tipset.Make(over(9, 1, 1, "x")))
	have(t, s) // that is one alone
	s.Filter().Add(tipset.Make(over(9, 1, 1, "y")))
	have(t, s, "pair")
	s = at(t, 20)
	does(t, s, block(a), block(b))
	s.Dag().Add(again(b)) // the filter isn't told: b and this one aren't both banned
	have(t, s, "pair")
	does(t, s, block(again(again(b))))
	have(t, s) // now it knows of two
	s.Dag().Add(again(c))
	s.Dag().Add(c) // this pair the filter doesn't know
	s.Filter().Add(tipset.Make(over(9, 1, 1, "x")), tipset.Make(over(9, 1, 1, "y")))
	have(t, s, "pair") // as many on either side, but others
	s = at(t, 20)
	other := tipset.Make(header.Genesis())
	other.ID = api.ID{1}
	s.Filter().Add(other) // the genesis is in no pair
	have(t, s, "pair")
}

// P25.1: all words, in their order.
func TestOrder(t *testing.T) {
	want := []string{"head", "final", "mark", "block", "orphan", "hold", "cert", "pair"}
	var words []string
	for _, q := range questions() {
		words = append(words, q.word)
	}
	if !slices.Equal(words, want) {
		t.Errorf("P25.1: %q, wanted %q", words, want)
	}
	s := at(t, 20)
	a, n := over(1, 1, 5, "a"), over(1, 2, 1, "n")
	does(t, s, block(a), block(over(2, 4, 1, "x", n)), holdTo(a))
	force(t, s, key(over(5, 5, 5, "?")))
	s.Dag().Add(n)
	s.Dag().Add(over(21, 2, 1, "h"))
	s.Filter().Add(tipset.Make(over(9, 1, 1, "x")), tipset.Make(over(9, 1, 1, "y")))
	have(t, s, "head", "final", "mark", "block", "orphan", "pair")
}
