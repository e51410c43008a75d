package state

import (
	"cmp"
	"slices"

	"coxswain/api"
	"coxswain/cert"
	"coxswain/header"
	"coxswain/own"
	"coxswain/pool"
)

const mostClock = 1 << 30

// Parts is all of a state, as plain data: what is marked, and the head, by
// their keys (no mark: nothing is marked); all blocks but the genesis, by their
// heights, then names; all else in its order.
type Parts struct {
	Clock                  int
	Mark, Head             string
	Blocks, Orphans, Holds []header.Header
	Certs, Waiting         []cert.Cert
}

// Parts answers all of the state.
func (s *State) Parts() Parts {
	return Parts{
		Clock:   s.clock,
		Mark:    s.marked.Key(),
		Head:    s.head.Key(),
		Blocks:  s.blocks(),
		Orphans: s.Orphans(),
		Holds:   s.Holds(),
		Certs:   s.chain.Certs(),
		Waiting: s.chain.Waiting(),
	}
}

// blocks answers the headers of all blocks but the genesis, by their heights,
// then names: so each stands behind its parents.
func (s *State) blocks() []header.Header {
	var l []header.Header
	root := header.Root()
	for _, id := range s.dag.Blocks() {
		if b, _ := s.dag.Block(id); id != root {
			l = append(l, b.Header)
		}
	}
	slices.SortStableFunc(l, func(a, b header.Header) int { return cmp.Compare(a.Height, b.Height) }) // names rise already
	return l
}

// Restore answers the state of parts, if there is one.
func Restore(c Config, p Parts) (*State, api.Errno) {
	s, e := New(c)
	if e != api.OK {
		return nil, e
	}
	if !s.restore(p) {
		return nil, api.ErrBad
	}
	return s, api.OK
}

// restore makes a new state the one of parts, and tells whether they may be.
// The mark comes behind the certificates: each of them was accepted, whatever
// was marked then.
func (s *State) restore(p Parts) bool {
	if !among(p.Clock, mostClock) {
		return false
	}
	s.clock = p.Clock
	return s.restoreBlocks(p.Blocks) &&
		keep(s.orphans, p.Orphans, s.mayBeOrphan) && keep(s.holds, p.Holds, s.mayBeHeld) &&
		s.restoreCerts(p.Certs) && s.restoreWaiting(p.Waiting) &&
		s.restoreMark(p.Mark) && s.restoreHead(p.Head)
}

// restoreBlocks makes headers come in, one behind the other.
func (s *State) restoreBlocks(l []header.Header) bool {
	for _, h := range l {
		if h.Height > s.clock || s.add(h) != api.OK {
			return false
		}
	}
	return true
}

// mayBeOrphan tells whether a header wants its parents, and nothing else.
func (s *State) mayBeOrphan(h header.Header) bool {
	return h.Height <= s.clock && s.dag.Check(h) == api.ErrNone
}

// mayBeHeld tells whether a header wants the clock to go on.
func (s *State) mayBeHeld(h header.Header) bool {
	return h.Height > s.clock && h.Check() == api.OK
}

// keep makes headers wait in a pool of none, if each may, once, and there is
// room for all.
func keep(p *pool.Pool[header.Header], l []header.Header, may func(header.Header) bool) bool {
	for _, h := range l {
		if !may(h) {
			return false
		}
		p.Put(name(h), h.Height, own.Header(h))
	}
	return p.Len() == len(l) // where one went, or came twice, fewer wait
}

// restoreCerts makes certificates be accepted, one behind the other.
func (s *State) restoreCerts(l []cert.Cert) bool {
	for _, c := range l {
		if accepted, _ := s.chain.Offer(c, view{s}); !accepted {
			return false
		}
	}
	return true
}

// restoreWaiting makes certificates wait, if there is room for all.
func (s *State) restoreWaiting(l []cert.Cert) bool {
	for _, c := range l {
		if accepted, e := s.chain.Offer(c, view{s}); accepted || e != api.OK {
			return false
		}
	}
	return len(s.chain.Waiting()) == len(l)
}

// restoreMark marks the tipset of a key, if it is one.
func (s *State) restoreMark(key string) bool {
	if key == "" {
		return true
	}
	_, e := s.mark(key)
	return e == api.OK
}

// restoreHead makes the tipset of a key the head, if it leads.
func (s *State) restoreHead(key string) bool {
	head, e := s.dag.Tipset(key)
	s.head = head
	return e == api.OK && !s.lead()
}
