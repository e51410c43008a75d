package state

import (
	"cmp"
	"math/big"
	"slices"
	"strings"

	"coxswain/api"
	"coxswain/cert"
	"coxswain/command"
	"coxswain/gain"
	"coxswain/header"
	"coxswain/table"
)

// plain is a state by plain means: all is looked up in lists, each time anew;
// nothing is kept but what was told. Keys stand for tipsets, "" for none.
type plain struct {
	config         Config
	clock          int
	blocks         map[api.ID]header.Header
	orphans, holds []header.Header
	certs, waiting []cert.Cert
	table          table.Table
	final, mark    string
	head           string
}

// plainly answers the plain state of a chain that was told nothing yet.
func plainly(c Config) *plain {
	first, _ := table.New(c.Table...)
	root := header.Key(header.Root())
	return &plain{config: c, table: first, final: root, head: root, blocks: map[api.ID]header.Header{header.Root(): header.Genesis()}}
}

// tipset answers the headers of a key's names, and whether they are a tipset:
// ErrNone, if one isn't there.
func (p *plain) tipset(key string) ([]header.Header, api.Errno) {
	if len(key) == 0 || len(key)%32 != 0 || len(key) > 5*32 {
		return nil, api.ErrArg
	}
	var l []header.Header
	for i := 0; i < len(key); i += 32 {
		if i > 0 && key[i-32:i] >= key[i:i+32] {
			return nil, api.ErrArg
		}
		l = append(l, p.blocks[api.ID([]byte(key[i:i+32]))])
	}
	for i := range l {
		if _, there := p.blocks[api.ID([]byte(key[32*i:32*i+32]))]; !there {
			return nil, api.ErrNone
		}
	}
	for i, h := range l {
		if h.Height != l[0].Height || h.Power != l[0].Power || !slices.Equal(h.Parents, l[0].Parents) {
			return nil, api.ErrTipset
		}
		if slices.ContainsFunc(l[:i], func(x header.Header) bool { return x.Miner == h.Miner }) {
			return nil, api.ErrTipset
		}
	}
	return l, api.OK
}

// way answers the keys of a tipset and of all behind it.
func (p *plain) way(key string) []string {
	var l []string
	for key != "" {
		l = append(l, key)
		t, _ := p.tipset(key)
		key = header.Key(t[0].Parents...)
	}
	return l
}

func (p *plain) descends(key, from string) bool { return slices.Contains(p.way(key), from) }

func (p *plain) oneChain(a, b string) bool { return p.descends(a, b) || p.descends(b, a) }

// weight answers what a tipset weighs, by the library's numbers.
func (p *plain) weight(key string) *big.Int {
	sum := new(big.Int)
	for _, k := range p.way(key) {
		t, _ := p.tipset(k)
		if t[0].Height == 0 {
			continue
		}
		wins := 0
		for _, h := range t {
			wins += h.Wins
		}
		x, _ := new(big.Int).SetString(gain.Of(t[0].Power, wins).Text(), 10)
		sum.Add(sum, x)
	}
	return sum
}

func ticket(l []header.Header) string {
	least := l[0].Ticket
	for _, h := range l {
		least = min(least, h.Ticket)
	}
	return least
}

// banned tells whether the miner of a header said another thing of its height.
func (p *plain) banned(h header.Header) bool {
	for id, x := range p.blocks {
		if x.Miner == h.Miner && x.Height == h.Height && id != h.ID() {
			return true
		}
	}
	return false
}

// fronts answers the keys of all fronts.
func (p *plain) fronts() []string {
	families := map[string][]header.Header{}
	for _, h := range p.blocks {
		if (h.Height+p.config.Delay <= p.clock || h.Height == 0) && !p.banned(h) {
			families[h.Family()] = append(families[h.Family()], h)
		}
	}
	var l []string
	for _, f := range families {
		slices.SortFunc(f, func(a, b header.Header) int {
			return cmp.Or(strings.Compare(a.Ticket, b.Ticket), strings.Compare(name(a), name(b)))
		})
		var names []api.ID
		for _, h := range f[:min(5, len(f))] {
			names = append(names, h.ID())
		}
		l = append(l, header.Key(names...))
	}
	return l
}

// lead makes what leads the head.
func (p *plain) lead() bool {
	floor := p.final
	if p.mark != "" && p.descends(p.mark, floor) {
		floor = p.mark
	}
	best := floor
	for _, key := range append(p.fronts(), floor) {
		if p.descends(key, floor) && p.better(key, best) {
			best = key
		}
	}
	moved := best != p.head
	p.head = best
	return moved
}

// better tells whether a tipset leads ahead of another one.
func (p *plain) better(key, other string) bool {
	if c := p.weight(key).Cmp(p.weight(other)); c != 0 {
		return c > 0
	}
	if key == p.head || other == p.head {
		return key == p.head
	}
	a, _ := p.tipset(key)
	b, _ := p.tipset(other)
	return cmp.Or(strings.Compare(ticket(a), ticket(b)), strings.Compare(key, other)) < 0
}

// check tells whether a header may come in.
func (p *plain) check(h header.Header) api.Errno {
	parents, e := p.tipset(header.Key(h.Parents...))
	switch {
	case e == api.ErrNone:
		return e
	case e != api.OK:
		return api.ErrParents
	case h.Height <= parents[0].Height:
		return api.ErrHeight
	}
	return api.OK
}

func byHeights(a, b header.Header) int {
	return cmp.Or(cmp.Compare(a.Height, b.Height), strings.Compare(name(a), name(b)))
}

// queue puts a header among others, of which at most so many stay.
func queue(l *[]header.Header, most int, h header.Header, status int) int {
	*l = append(*l, h)
	slices.SortFunc(*l, byHeights)
	if len(*l) > most {
		last := (*l)[most]
		*l = (*l)[:most]
		if last.ID() == h.ID() {
			return Gone
		}
	}
	return status
}

func (p *plain) enter(h header.Header) (int, api.Errno) {
	switch e := p.check(h); e {
	case api.OK:
		p.blocks[h.ID()] = h
	case api.ErrNone:
		return queue(&p.orphans, p.config.Orphans, h, Orphan), api.OK
	default:
		return 0, e
	}
	for i := 0; i < len(p.orphans); i++ {
		x := p.orphans[i]
		e := p.check(x)
		if e == api.ErrNone {
			continue
		}
		p.orphans = slices.Delete(p.orphans, i, i+1)
		if e == api.OK {
			p.blocks[x.ID()] = x
		}
		i = -1
	}
	return In, api.OK
}

func (p *plain) has(h header.Header) bool {
	_, there := p.blocks[h.ID()]
	is := func(x header.Header) bool { return x.ID() == h.ID() }
	return there || slices.ContainsFunc(p.orphans, is) || slices.ContainsFunc(p.holds, is)
}

func (p *plain) block(x command.Block) (int, api.Errno) {
	h, e := header.Parse(x.Bytes)
	switch {
	case e != api.OK:
		return 0, e
	case !x.Right:
		return 0, api.ErrVerdict
	case p.has(h):
		return 0, api.ErrHave
	case h.Height > p.clock:
		return queue(&p.holds, p.config.Holds, h, Held), api.OK
	}
	return p.enter(h)
}

func (p *plain) tick(epoch int) (int, api.Errno) {
	if epoch <= p.clock {
		return 0, api.ErrClock
	}
	p.clock = epoch
	for len(p.holds) > 0 && p.holds[0].Height <= epoch {
		h := p.holds[0]
		p.holds = p.holds[1:]
		p.enter(h)
	}
	return Set, api.OK
}

// judge tells whether a certificate of any instance may be accepted: ErrNone:
// not yet.
func (p *plain) judge(x cert.Cert) api.Errno {
	_, known := p.tipset(x.Final)
	_, quorum := x.Next(p.table)
	switch {
	case x.Instance < len(p.certs):
		return api.ErrInstance
	case x.Instance > len(p.certs):
		return api.ErrNone
	case x.Base != p.final:
		return api.ErrBase
	case quorum != api.OK:
		return api.ErrQuorum
	case known == api.ErrNone:
		return api.ErrNone
	case known != api.OK:
		return api.ErrTipset
	case !p.descends(x.Final, x.Base) || p.mark != "" && !p.oneChain(x.Final, p.mark):
		return api.ErrConflict
	}
	return api.OK
}

func (p *plain) accept(x cert.Cert) {
	p.table, _ = x.Next(p.table)
	p.final = x.Final
	p.certs = append(p.certs, x)
}

// retry tries those that wait, from the first one on, again and again.
func (p *plain) retry() {
	for i := 0; i < len(p.waiting); i++ {
		x := p.waiting[i]
		e := p.judge(x)
		if e == api.ErrNone {
			continue
		}
		p.waiting = slices.Delete(slices.Clone(p.waiting), i, i+1)
		if e == api.OK {
			p.accept(x)
		}
		i = -1
	}
}

func (p *plain) cert(c command.Cert) (int, api.Errno) {
	x, e := cert.Parse(c.Bytes)
	is := func(y cert.Cert) bool { return x.Bytes() == y.Bytes() }
	switch {
	case e != api.OK:
		return 0, e
	case !c.Right:
		return 0, api.ErrVerdict
	case slices.ContainsFunc(p.certs, is) || slices.ContainsFunc(p.waiting, is):
		return 0, api.ErrHave
	}
	switch e := p.judge(x); e {
	case api.OK:
		p.accept(x)
		return Accepted, api.OK
	case api.ErrNone:
	default:
		return 0, e
	}
	p.waiting = append(p.waiting, x)
	slices.SortFunc(p.waiting, func(a, b cert.Cert) int {
		i, j := a.ID(), b.ID()
		return cmp.Or(cmp.Compare(a.Instance, b.Instance), strings.Compare(string(i[:]), string(j[:])))
	})
	if len(p.waiting) <= p.config.Waits {
		return Waits, api.OK
	}
	last := p.waiting[p.config.Waits]
	p.waiting = p.waiting[:p.config.Waits]
	if is(last) {
		return Gone, api.OK
	}
	return Waits, api.OK
}

func (p *plain) marks(key string) (int, api.Errno) {
	_, e := p.tipset(key)
	switch {
	case e != api.OK:
		return 0, e
	case !p.oneChain(key, p.final):
		return 0, api.ErrConflict
	case key == p.mark:
		return 0, api.ErrHave
	}
	p.mark = key
	return Set, api.OK
}

// apply does a command.
func (p *plain) apply(c command.Command) Result {
	status, e := 0, command.Check(c)
	if e == api.OK {
		switch x := c.(type) {
		case command.Block:
			status, e = p.block(x)
		case command.Cert:
			status, e = p.cert(x)
		case command.Clock:
			status, e = p.tick(x.Epoch)
		case command.Mark:
			status, e = p.marks(x.Key)
		default:
			if p.mark == "" {
				e = api.ErrNone
			}
			p.mark, status = "", Set
		}
	}
	if e != api.OK {
		return Result{Code: e}
	}
	p.retry()
	return Result{Status: status, Moved: p.lead()}
}

// parts answers all of it.
func (p *plain) parts() Parts {
	x := Parts{Clock: p.clock, Mark: p.mark, Head: p.head, Orphans: p.orphans, Holds: p.holds, Certs: p.certs, Waiting: p.waiting}
	for id, h := range p.blocks {
		if id != header.Root() {
			x.Blocks = append(x.Blocks, h)
		}
	}
	slices.SortFunc(x.Blocks, byHeights)
	return x
}
