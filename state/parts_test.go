package state

import (
	"math"
	"reflect"
	"slices"
	"testing"

	"coxswain/api"
	"coxswain/cert"
	"coxswain/command"
	"coxswain/header"
)

// rich is a state that has some of everything, and the headers that it is made
// of: a, b over a, and z over the genesis are there (z is another thing of a's
// miner), final is a, marked is b; o wants a header that never came, h is above
// the clock; a certificate waits for h.
type rich struct {
	s                *State
	a, b, z, o, p, h header.Header
	wait             cert.Cert
}

func riches(t *testing.T) rich {
	t.Helper()
	c := roomy()
	c.Orphans, c.Holds, c.Waits = 2, 2, 2
	s := of(t, c)
	does(t, s, command.Clock{Epoch: 9}, Result{Status: Set})
	x := rich{s: s, a: over(1, 0, 1, "a"), z: over(1, 0, 9, "z")}
	x.b = over(2, 1, 1, "b", x.a)
	lost := over(1, 9, 1, "?")
	x.o, x.p, x.h = over(3, 2, 1, "o", lost), over(9, 3, 1, "p", lost), over(10, 3, 1, "h", x.b)
	x.wait = link(1, key(x.a), key(x.h))
	puts(t, s, x.a, x.b, x.z)
	does(t, s, block(x.p), Result{Status: Orphan})
	does(t, s, block(x.o), Result{Status: Orphan})
	does(t, s, block(x.h), Result{Status: Held})
	does(t, s, told(link(0, key(), key(x.a))), Result{Status: Accepted})
	does(t, s, told(x.wait), Result{Status: Waits})
	does(t, s, command.Mark{Key: key(x.b)}, Result{Status: Set})
	return x
}

// bare answers the parts of a state to which blocks alone came, at a clock, the
// last one of which leads.
func bare(clock int, l ...header.Header) Parts {
	return Parts{Clock: clock, Head: key(l[len(l)-1]), Blocks: l}
}

// P21.1: the parts of a state, each in its order.
func TestParts(t *testing.T) {
	x := riches(t)
	p := x.s.Parts()
	if p.Clock != 9 || p.Mark != key(x.b) || p.Head != key(x.b) {
		t.Errorf("P21.1: %v", p)
	}
	first, second := x.a, x.z
	if name(first) > name(second) {
		first, second = second, first
	}
	if !reflect.DeepEqual(p.Blocks, []header.Header{first, second, x.b}) {
		t.Errorf("P21.1: blocks %v", p.Blocks)
	}
	if !reflect.DeepEqual(p.Orphans, []header.Header{x.o, x.p}) || !reflect.DeepEqual(p.Orphans, x.s.Orphans()) {
		t.Errorf("P21.1: orphans %v, %v", p.Orphans, x.s.Orphans())
	}
	if !reflect.DeepEqual(p.Holds, []header.Header{x.h}) || !reflect.DeepEqual(p.Holds, x.s.Holds()) {
		t.Errorf("P21.1: held ones %v, %v", p.Holds, x.s.Holds())
	}
	if !reflect.DeepEqual(p.Certs, []cert.Cert{link(0, key(), key(x.a))}) || !reflect.DeepEqual(p.Waiting, []cert.Cert{x.wait}) {
		t.Errorf("P21.1: certificates %v, %v", p.Certs, p.Waiting)
	}
	does(t, x.s, command.Unmark{}, Result{Status: Set})
	if p := x.s.Parts(); p.Mark != "" {
		t.Errorf("P21.1: marked %x", p.Mark)
	}
}

// P21.1: of one height blocks stand by their names, and so do orphans and held
// headers, in whatever order they came.
func TestPartsOrder(t *testing.T) {
	s := at(t, 9)
	var l [3][]header.Header
	for miner := range 20 {
		l[0] = append(l[0], over(1+miner%2, miner, 1, "b"))
		l[1] = append(l[1], over(4+miner%2, miner, 1, "o", over(1, 63, 1, "?")))
		l[2] = append(l[2], over(10+miner%2, miner, 1, "h"))
	}
	for i, status := range []int{In, Orphan, Held} {
		for _, h := range l[i] {
			if r := s.Apply(block(h)); r.Status != status {
				t.Fatalf("P21.1: %v", r)
			}
		}
		slices.SortFunc(l[i], byHeights)
	}
	p := s.Parts()
	if !reflect.DeepEqual([3][]header.Header{p.Blocks, p.Orphans, p.Holds}, l) {
		t.Errorf("P21.1: %v", p)
	}
}

// P21.1: parts there and back; lists may come in another order, as long as
// parents are ahead of what stands on them.
func TestRestore(t *testing.T) {
	x := riches(t)
	p := x.s.Parts()
	s, e := Restore(x.s.Config(), p)
	if e != api.OK || !reflect.DeepEqual(s.Parts(), p) || !reflect.DeepEqual(s.Config(), x.s.Config()) {
		t.Fatalf("P21.1: Restore: %d", e)
	}
	if !reflect.DeepEqual(s.Filter().Pairs(), x.s.Filter().Pairs()) || s.Chain().Table() != x.s.Chain().Table() || s.Final().Key() != key(x.a) {
		t.Errorf("P21.1: Restore: %v", s.Parts())
	}
	other := p
	other.Blocks = []header.Header{x.a, x.b, x.z}
	other.Orphans = []header.Header{x.p, x.o}
	for _, blocks := range [][]header.Header{{x.a, x.b, x.z}, {x.a, x.z, x.b}, {x.z, x.a, x.b}} {
		other.Blocks = blocks
		if s, e := Restore(x.s.Config(), other); e != api.OK || !reflect.DeepEqual(s.Parts(), p) {
			t.Errorf("P21.1: Restore of another order: %d", e)
		}
	}
	for _, c := range []command.Command{block(over(1, 9, 1, "?")), block(x.h), command.Clock{Epoch: 10}, command.Unmark{}, command.Clock{Epoch: 11}} {
		if r, want := s.Apply(c), x.s.Apply(c); r != want || !same(s.Parts(), x.s.Parts()) {
			t.Errorf("P21.1: a restored state goes on: %s: %v, wanted %v", command.Name(c), r, want)
		}
	}
	if s, e := Restore(roomy(), Parts{Head: key()}); e != api.OK || !reflect.DeepEqual(s.Parts(), Parts{Head: key()}) {
		t.Errorf("P21.1: Restore of a new state: %d", e)
	}
}

// P21.1, P7: each reason for which parts are no state's; a nil State beside it.
func TestRestoreBad(t *testing.T) {
	x := riches(t)
	lost := over(1, 9, 1, "?")
	apart := over(3, 5, 1, "n", x.b, over(2, 5, 5, "?"))
	for what, change := range map[string]func(p *Parts){
		"clock below 0":                   func(p *Parts) { p.Clock = -1 },
		"least clock":                     func(p *Parts) { p.Clock = math.MinInt },
		"clock too high":                  func(p *Parts) { p.Clock, p.Orphans, p.Holds, p.Waiting = 1<<30+1, nil, nil, nil },
		"block wanting":                   func(p *Parts) { p.Blocks = p.Blocks[:len(p.Blocks)-1] },
		"block behind what stands on it":  func(p *Parts) { p.Blocks = []header.Header{x.b, x.a, x.z} },
		"block twice":                     func(p *Parts) { p.Blocks = append(p.Blocks, x.z) },
		"genesis as a block":              func(p *Parts) { p.Blocks = append(p.Blocks, header.Genesis()) },
		"block that may not be":           func(p *Parts) { p.Blocks = append(p.Blocks, header.Header{Height: 2, Parents: x.b.Parents}) },
		"block without parents":           func(p *Parts) { p.Blocks = append(p.Blocks, over(3, 5, 1, "n", lost)) },
		"block over no tipset":            func(p *Parts) { p.Blocks = append(p.Blocks, over(3, 5, 1, "n", x.a, x.b)) },
		"block as high as its parents":    func(p *Parts) { p.Blocks = append(p.Blocks, over(2, 5, 1, "n", x.b)) },
		"block above the clock":           func(p *Parts) { p.Blocks = append(p.Blocks, over(10, 5, 1, "n", x.b)) },
		"orphan that may come in":         func(p *Parts) { p.Orphans[0] = over(3, 5, 1, "n", x.b) },
		"orphan that is there":            func(p *Parts) { p.Orphans[0] = x.b },
		"orphan over no tipset":           func(p *Parts) { p.Orphans[0] = over(3, 5, 1, "n", x.a, x.b) },
		"orphan as high as its parents":   func(p *Parts) { p.Orphans[0] = over(2, 5, 1, "n", x.b) },
		"orphan that may not be":          func(p *Parts) { p.Orphans[0].Wins = 0 },
		"orphan above the clock":          func(p *Parts) { p.Orphans[0] = over(10, 5, 1, "n", lost) },
		"orphan twice":                    func(p *Parts) { p.Orphans[0] = x.p },
		"more orphans than may be":        func(p *Parts) { p.Orphans = append(p.Orphans, over(8, 5, 1, "n", lost)) },
		"more orphans, higher ones":       func(p *Parts) { p.Orphans = append(p.Orphans, over(9, 5, 1, "n", lost), over(9, 6, 1, "n", lost)) },
		"held one that may not be":        func(p *Parts) { p.Holds[0].Wins = 0 },
		"held one at the clock":           func(p *Parts) { p.Holds[0].Height = 9 },
		"held one below the clock":        func(p *Parts) { p.Holds[0].Height = 2 },
		"held one twice":                  func(p *Parts) { p.Holds = append(p.Holds, x.h) },
		"more held ones than may be":      func(p *Parts) { p.Holds = append(p.Holds, over(10, 5, 1, "n"), over(10, 6, 1, "n")) },
		"certificate out of place":        func(p *Parts) { p.Certs[0].Instance = 1 },
		"certificate twice":               func(p *Parts) { p.Certs = append(p.Certs, p.Certs[0]) },
		"certificate that may not be":     func(p *Parts) { p.Certs[0].Signers[0] = 64 },
		"certificate of no quorum":        func(p *Parts) { p.Certs[0].Signers = nil },
		"certificate from elsewhere":      func(p *Parts) { p.Certs[0].Base = key(x.a) },
		"certificate that would wait":     func(p *Parts) { p.Certs[0].Final = key(lost) },
		"certificate of no tipset":        func(p *Parts) { p.Certs[0].Final = key(x.a, x.b) },
		"certificate that goes back":      func(p *Parts) { p.Certs = append(p.Certs, link(1, key(x.a), key())) },
		"certificate that waits, there":   func(p *Parts) { p.Waiting[0].Final = key(x.b) },
		"certificate that waits, refused": func(p *Parts) { p.Waiting[0].Base = key() },
		"certificate that waits, known":   func(p *Parts) { p.Waiting[0] = p.Certs[0] },
		"certificate that waits, late":    func(p *Parts) { p.Waiting[0].Instance = 0 },
		"certificate that waits, wrong":   func(p *Parts) { p.Waiting[0].Signers[0] = -1 },
		"certificate that waits, twice":   func(p *Parts) { p.Waiting = append(p.Waiting, x.wait) },
		"more certificates than may wait": func(p *Parts) { p.Waiting = append(p.Waiting, link(2, key(), key()), link(3, key(), key())) },
		"mark that isn't there":           func(p *Parts) { p.Mark = key(lost) },
		"mark of no tipset":               func(p *Parts) { p.Mark = key(x.a, x.b) },
		"mark of no key":                  func(p *Parts) { p.Mark = "b" },
		"mark beside what is final":       func(p *Parts) { p.Mark = key(x.z) },
		"no head":                         func(p *Parts) { p.Head = "" },
		"head of no key":                  func(p *Parts) { p.Head = p.Head[1:] },
		"head that isn't there":           func(p *Parts) { p.Head = key(lost) },
		"head of no tipset":               func(p *Parts) { p.Head = key(x.a, x.b) },
		"head that is lighter":            func(p *Parts) { p.Mark, p.Head = "", key(x.a) },
		"head below the mark":             func(p *Parts) { p.Head = key(x.a) },
		"head beside what is final":       func(p *Parts) { p.Head = key(x.z) },
		"head that counts no more":        func(p *Parts) { p.Blocks = append(p.Blocks, over(2, 1, 1, "n", x.z)); p.Mark = "" },
		"all of another chain":            func(p *Parts) { p.Blocks = []header.Header{apart} },
		"nothing at all":                  func(p *Parts) { *p = Parts{} },
	} {
		p := x.s.Parts()
		change(&p)
		if s, e := Restore(x.s.Config(), p); e != api.ErrBad || s != nil {
			t.Errorf("P21.1: %s: %v, %d", what, s, e)
		}
	}
	if s, e := Restore(Config{Delay: 6}, Parts{}); e != api.ErrArg || s != nil {
		t.Errorf("P21.1: the config is told ahead of all else: %v, %d", s, e)
	}
}

// P21.1: the edges of what Restore lets: the clock's bounds, headers at it, as
// many as may wait; the head that was, of equal weights.
func TestRestoreEdges(t *testing.T) {
	x := riches(t)
	full := func(c Config, p Parts, want api.Errno) {
		t.Helper()
		if s, e := Restore(c, p); e != want || want == api.OK && !same(s.Parts(), p) {
			t.Errorf("P21.1: %v: %d, wanted %d", p, e, want)
		}
	}
	full(roomy(), Parts{Clock: 0, Head: key()}, api.OK)
	full(roomy(), Parts{Clock: 1 << 30, Head: key()}, api.OK)
	full(roomy(), bare(1, x.a), api.OK)
	full(roomy(), bare(0, x.a), api.ErrBad)
	p := x.s.Parts()
	c := x.s.Config()
	c.Orphans, c.Holds, c.Waits = 2, 1, 1
	full(c, p, api.OK)
	for i := range 3 {
		less := c
		*[]*int{&less.Orphans, &less.Holds, &less.Waits}[i]--
		full(less, p, api.ErrBad)
	}
	beside := over(2, 1, 1, "q")
	equal := Parts{Clock: 9, Blocks: []header.Header{over(1, 0, 1, "m"), beside}}
	for _, h := range equal.Blocks {
		equal.Head = key(h)
		full(roomy(), equal, api.OK)
	}
	equal.Head = key()
	full(roomy(), equal, api.ErrBad)
	c = roomy()
	c.Delay = 1
	full(c, bare(1, x.a), api.ErrBad) // it doesn't count yet
	full(c, bare(2, x.a), api.OK)
	marked := Parts{Clock: 1, Head: key(x.a), Mark: key(x.a), Blocks: []header.Header{x.a}}
	full(c, marked, api.OK) // but the floor leads
}

// P21.1: a certificate was accepted whatever is marked now: with the mark ahead
// of it, behind it, and at it.
func TestRestoreMark(t *testing.T) {
	a := over(1, 0, 1, "a")
	b := over(2, 1, 1, "b", a)
	c := over(3, 2, 1, "c", b)
	for _, mark := range []string{"", key(), key(a), key(b), key(c)} {
		p := Parts{Clock: 9, Mark: mark, Head: key(c), Blocks: []header.Header{a, b, c}, Certs: []cert.Cert{link(0, key(), key(b))}}
		if s, e := Restore(roomy(), p); e != api.OK || !reflect.DeepEqual(s.Parts(), p) {
			t.Errorf("P21.1: marked %x: %d", mark, e)
		}
	}
}
