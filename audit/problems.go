package audit

import (
	"cmp"
	"slices"

	"coxswain/api"
	"coxswain/dag"
	"coxswain/filter"
	"coxswain/header"
	"coxswain/state"
	"coxswain/table"
)

// question is what is asked of a state and its parts, and the word for it, if
// that is so.
type question struct {
	word string
	is   func(s *state.State, p state.Parts) bool
}

// questions answers all that is asked, in its order.
func questions() []question {
	return []question{
		{"head", headMayNot},
		{"final", finalIsGone},
		{"mark", markIsApart},
		{"block", blockIsOdd},
		{"orphan", orphanIsNone},
		{"hold", holdIsDue},
		{"cert", certIsOdd},
		{"pair", pairsAreOther},
	}
}

// Problems answers the words for all that isn't as it should be.
func Problems(s *state.State) []string {
	parts := s.Parts()
	var words []string
	for _, q := range questions() {
		if q.is(s, parts) {
			words = append(words, q.word)
		}
	}
	return words
}

// headMayNot: the head may not be.
func headMayNot(s *state.State, _ state.Parts) bool { return !May(s, s.Head()) }

// root answers the key of the genesis, which is final at first.
func root() string { return header.Key(header.Root()) }

// finalIsGone: what the last certificate names isn't there.
func finalIsGone(s *state.State, p state.Parts) bool {
	key := root()
	if n := len(p.Certs); n > 0 {
		key = p.Certs[n-1].Final
	}
	_, e := s.Dag().Tipset(key)
	return e != api.OK
}

// markIsApart: what is marked isn't on one chain with what is final.
func markIsApart(s *state.State, _ state.Parts) bool {
	d, final, marked := s.Dag(), s.Final(), s.Marked()
	return !marked.Zero() && !Reaches(d, marked, final.Key()) && !Reaches(d, final, marked.Key())
}

// blockIsOdd: a block is above the clock, or its parents are no tipset below
// it. The genesis, which has none, isn't among the parts.
func blockIsOdd(s *state.State, p state.Parts) bool {
	return slices.ContainsFunc(p.Blocks, func(h header.Header) bool {
		return h.Height > p.Clock || !stands(s.Dag(), h)
	})
}

// stands tells whether a header's parents are a tipset below it.
func stands(d *dag.Dag, h header.Header) bool {
	parents, e := d.Tipset(header.Key(h.Parents...))
	return e == api.OK && parents.Height() < h.Height
}

// orphanIsNone: an orphan is above the clock, or has all its parents.
func orphanIsNone(s *state.State, p state.Parts) bool {
	return slices.ContainsFunc(p.Orphans, func(h header.Header) bool {
		return h.Height > p.Clock || len(s.Dag().Missing(h.Parents...)) == 0
	})
}

// holdIsDue: a held header isn't above the clock.
func holdIsDue(_ *state.State, p state.Parts) bool {
	return slices.ContainsFunc(p.Holds, func(h header.Header) bool { return h.Height <= p.Clock })
}

// certIsOdd: of the certificates, one behind the other, one hasn't its
// instance, its base, or a quorum in the table that those ahead of it made.
func certIsOdd(s *state.State, p state.Parts) bool {
	signers, _ := table.New(s.Config().Table...)
	base := root()
	for i, c := range p.Certs {
		if c.Instance != i || c.Base != base || !signers.Quorum(c.Signers...) {
			return true
		}
		base = c.Final
		signers, _ = signers.Change(c.Change...) // nobody's, if that may not be: then nothing has a quorum
	}
	return false
}

// pairsAreOther: who said two things at once, as the filter tells, isn't who did
// by the blocks. No other block is as low as the genesis, so that is in no pair.
func pairsAreOther(s *state.State, p state.Parts) bool {
	said := map[filter.Pair]int{}
	for _, h := range p.Blocks {
		said[filter.Pair{Height: h.Height, Miner: h.Miner}]++
	}
	var pairs []filter.Pair
	for pair, times := range said {
		if times > 1 {
			pairs = append(pairs, pair)
		}
	}
	slices.SortFunc(pairs, func(a, b filter.Pair) int {
		return cmp.Or(cmp.Compare(a.Height, b.Height), cmp.Compare(a.Miner, b.Miner))
	})
	return !slices.Equal(pairs, s.Filter().Pairs())
}
