package final

import (
	"bytes"
	"cmp"
	"math"
	"math/rand"
	"reflect"
	"slices"
	"strings"
	"testing"
	"unsafe"

	"coxswain/api"
	"coxswain/cert"
	"coxswain/header"
	"coxswain/table"
)

// key answers the key of a tipset by its number: 0 is the genesis.
func key(n int) string {
	if n == 0 {
		return header.Key(header.Root())
	}
	return header.Key(api.ID{byte(n), byte(n >> 8)})
}

// view is tipsets that are there, each with the one behind it, by their keys;
// what Known answers of some of them; and those that don't fit.
type view struct {
	behind map[string]string
	known  map[string]api.Errno
	unfit  map[string]int
}

func (v view) Known(key string) api.Errno {
	if e, told := v.known[key]; told {
		return e
	}
	if _, there := v.behind[key]; there {
		return api.OK
	}
	return api.ErrNone
}

func (v view) Behind(key, base string) bool {
	for key != base && key != "" {
		key = v.behind[key]
	}
	return key == base && key != ""
}

func (v view) Fits(key string) bool { return v.unfit[key] == 0 }

// line answers a view of the tipsets 0 to n, each behind the next one.
func line(n int) view {
	v := view{behind: map[string]string{key(0): ""}, known: map[string]api.Errno{}, unfit: map[string]int{}}
	for i := range n {
		v.behind[key(i+1)] = key(i)
	}
	return v
}

// of answers the table in which each miner has that power, from miner 0 on.
func of(powers ...int) table.Table {
	var l []table.Entry
	for miner, power := range powers {
		if power > 0 {
			l = append(l, table.Entry{Miner: miner, Power: power})
		}
	}
	x, _ := table.New(l...)
	return x
}

// link answers a certificate.
func link(instance, base, final int, signers ...int) cert.Cert {
	return cert.Cert{Instance: instance, Base: key(base), Final: key(final), Signers: signers}
}

// with answers a certificate with that change.
func with(x cert.Cert, l ...table.Entry) cert.Cert {
	x.Change = l
	return x
}

// facts are all that a chain tells of itself.
type facts struct {
	Next           int
	Final          string
	Table          table.Table
	Certs, Waiting []string
}

// texts answers the bytes of certificates.
func texts(l []cert.Cert) []string {
	var s []string
	for _, x := range l {
		s = append(s, x.Bytes())
	}
	return s
}

// tell answers what a chain tells.
func tell(c *Chain) facts {
	return facts{c.Next(), c.Final(), c.Table(), texts(c.Certs()), texts(c.Waiting())}
}

// plain is a chain by plain means.
type plain struct {
	most  int
	table table.Table
	certs []cert.Cert
	wait  []cert.Cert
}

// begin answers a chain, and a plain one of the same table.
func begin(t table.Table, most int) (*Chain, *plain) {
	return New(t, most), &plain{most: min(max(most, 0), 64), table: t}
}

func (p *plain) final() string {
	last := key(0)
	for _, x := range p.certs {
		last = x.Final
	}
	return last
}

func (p *plain) tell() facts {
	return facts{len(p.certs), p.final(), p.table, texts(p.certs), texts(p.wait)}
}

func (p *plain) judge(x cert.Cert, v View) api.Errno {
	_, wrong := p.table.Change(x.Change...)
	switch known := v.Known(x.Final); {
	case x.Base != p.final():
		return api.ErrBase
	case !p.table.Quorum(x.Signers...) || wrong != api.OK:
		return api.ErrQuorum
	case known == api.ErrNone:
		return api.ErrNone
	case known != api.OK:
		return api.ErrTipset
	case !v.Behind(x.Final, x.Base), !v.Fits(x.Final):
		return api.ErrConflict
	}
	return api.OK
}

func (p *plain) accept(x cert.Cert) {
	p.table, _ = p.table.Change(x.Change...)
	p.certs = append(p.certs, x)
}

func (p *plain) retry(v View) int {
	n := 0
	for {
		p.wait = slices.DeleteFunc(p.wait, func(x cert.Cert) bool { return x.Instance < len(p.certs) })
		i := slices.IndexFunc(p.wait, func(x cert.Cert) bool {
			return x.Instance == len(p.certs) && p.judge(x, v) != api.ErrNone
		})
		if i < 0 {
			return n
		}
		x := p.wait[i]
		p.wait = slices.Delete(p.wait, i, i+1)
		if p.judge(x, v) == api.OK {
			p.accept(x)
			n++
		}
	}
}

func (p *plain) offer(x cert.Cert, v View) (bool, api.Errno) {
	is := func(y cert.Cert) bool { return y.ID() == x.ID() }
	switch {
	case x.Check() != api.OK:
		return false, x.Check()
	case slices.ContainsFunc(p.certs, is), slices.ContainsFunc(p.wait, is):
		return false, api.ErrHave
	case x.Instance < len(p.certs):
		return false, api.ErrInstance
	}
	if x.Instance == len(p.certs) {
		switch e := p.judge(x, v); e {
		case api.OK:
			p.accept(x)
			p.retry(v)
			return true, api.OK
		case api.ErrNone:
		default:
			return false, e
		}
	}
	p.wait = append(p.wait, x)
	slices.SortFunc(p.wait, func(a, b cert.Cert) int {
		i, j := a.ID(), b.ID()
		return cmp.Or(cmp.Compare(a.Instance, b.Instance), bytes.Compare(i[:], j[:]))
	})
	p.wait = p.wait[:min(len(p.wait), p.most)]
	return false, api.OK
}

// agree tells where a chain isn't what a plain one is.
func agree(t *testing.T, promise string, c *Chain, p *plain) {
	t.Helper()
	if got, want := tell(c), p.tell(); !reflect.DeepEqual(got, want) {
		t.Fatalf("%s: %d accepted, %d wait, final %x; want %d, %d, %x", promise, got.Next, len(got.Waiting), got.Final, want.Next, len(want.Waiting), want.Final)
	}
}

// offer offers a certificate to both; what they answer and tell is to be the
// same, and nothing to be changed beside an error.
func offer(t *testing.T, promise string, c *Chain, p *plain, x cert.Cert, v View) (bool, api.Errno) {
	t.Helper()
	ahead := tell(c)
	is, e := c.Offer(x, v)
	wanted, want := p.offer(x, v)
	if is != wanted || e != want {
		t.Fatalf("%s: Offer of instance %d, Next %d: %t, %d; want %t, %d", promise, x.Instance, ahead.Next, is, e, wanted, want)
	}
	if e != api.OK && (is || !reflect.DeepEqual(tell(c), ahead)) {
		t.Fatalf("P17.3: error %d, and something is changed", e)
	}
	agree(t, promise, c, p)
	return is, e
}

// retry makes both try those that wait.
func retry(t *testing.T, promise string, c *Chain, p *plain, v View) int {
	t.Helper()
	n, want := c.Retry(v), p.retry(v)
	if n != want {
		t.Fatalf("%s: Retry: %d, want %d", promise, n, want)
	}
	agree(t, promise, c, p)
	return n
}

// wants tells where Offer doesn't answer that.
func wants(t *testing.T, name string, c *Chain, x cert.Cert, v View, wanted bool, want api.Errno) {
	t.Helper()
	ahead := tell(c)
	is, e := c.Offer(x, v)
	if is != wanted || e != want {
		t.Errorf("P17.1: %s: Offer: %t, %d, want %t, %d", name, is, e, wanted, want)
	}
	if e != api.OK && !reflect.DeepEqual(tell(c), ahead) {
		t.Errorf("P17.3: %s: error %d, and something is changed", name, e)
	}
}

// stands tells where a chain doesn't tell that.
func stands(t *testing.T, name string, c *Chain, next, final int, x table.Table, certs, waiting []cert.Cert) {
	t.Helper()
	want := facts{next, key(final), x, texts(certs), texts(waiting)}
	if got := tell(c); !reflect.DeepEqual(got, want) {
		t.Fatalf("P17.1: %s: %d accepted, %d wait; want %d, %d, or others", name, got.Next, len(got.Waiting), next, len(waiting))
	}
}

// sorted answers certificates by their instances, then their names.
func sorted(l ...cert.Cert) []cert.Cert {
	slices.SortFunc(l, func(a, b cert.Cert) int {
		i, j := a.ID(), b.ID()
		return cmp.Or(cmp.Compare(a.Instance, b.Instance), bytes.Compare(i[:], j[:]))
	})
	return l
}

// P17.1: a new chain is of nobody's certificate, of that table, and the genesis
// block alone is final; the chapter's example.
func TestNew(t *testing.T) {
	for _, x := range []table.Table{{}, of(1), of(0, 2, 1)} {
		for _, most := range []int{math.MinInt, -1, 0, 1, 64, 65, math.MaxInt} {
			c := New(x, most)
			stands(t, "a new chain", c, 0, 0, x, nil, nil)
			stands(t, "a new chain's clone", c.Clone(), 0, 0, x, nil, nil)
			if n := c.Retry(line(3)); n != 0 || c.Next() != 0 {
				t.Errorf("P17.1: Retry of a new chain: %d", n)
			}
		}
	}
	root := header.Genesis().ID()
	if New(of(1), 1).Final() != string(root[:]) {
		t.Error("P17.1: what is final at first isn't the genesis block")
	}
}

// fault is something that is wrong with a certificate, or with what is seen of
// its Final.
type fault struct {
	e   api.Errno
	set func(x *cert.Cert, v *view)
}

// faults are all of them, in the order in which they are told.
func faults() []fault {
	return []fault{
		{api.ErrBase, func(x *cert.Cert, v *view) { x.Base = key(0) }},
		{api.ErrQuorum, func(x *cert.Cert, v *view) { x.Signers = []int{0, 1} }},
		{api.ErrNone, func(x *cert.Cert, v *view) { v.known[x.Final] = api.ErrNone }},
		{api.ErrTipset, func(x *cert.Cert, v *view) {
			if v.known[x.Final] == api.OK { // a tipset isn't both
				v.known[x.Final] = api.ErrArg
			}
		}},
		{api.ErrConflict, func(x *cert.Cert, v *view) { v.behind[x.Final] = "" }},
		{api.ErrConflict, func(x *cert.Cert, v *view) { v.unfit[x.Final]++ }},
	}
}

// P17.1, P17.3: what is judged of a certificate with any of these faults: the
// first one that holds; Offer answers the same, but that one whose blocks
// aren't there waits.
func TestJudge(t *testing.T) {
	powers := of(1, 1, 1)
	for set := range 1 << len(faults()) {
		c := New(powers, 9)
		wants(t, "the first one", c, link(0, 0, 1, 0, 1, 2), line(9), true, api.OK)
		x, v, want := link(1, 1, 2, 0, 1, 2), line(9), api.OK
		for i, f := range faults() {
			if set>>i&1 == 0 {
				continue
			}
			f.set(&x, &v)
			if want == api.OK {
				want = f.e
			}
		}
		ahead := tell(c)
		if e := c.Judge(x, v); e != want {
			t.Errorf("P17.1: faults %06b: Judge: %d, want %d", set, e, want)
		}
		if !reflect.DeepEqual(tell(c), ahead) {
			t.Errorf("P17.1: faults %06b: Judge changes something", set)
		}
		is, e := c.Offer(x, v)
		switch want {
		case api.OK:
			if !is || e != api.OK || c.Next() != 2 || c.Final() != key(2) || len(c.Waiting()) != 0 {
				t.Errorf("P17.1: no fault: Offer: %t, %d", is, e)
			}
		case api.ErrNone:
			if is || e != api.OK || c.Next() != 1 || !reflect.DeepEqual(texts(c.Waiting()), texts([]cert.Cert{x})) {
				t.Errorf("P17.1: faults %06b: Offer: %t, %d; %d wait", set, is, e, len(c.Waiting()))
			}
		default:
			if is || e != want || !reflect.DeepEqual(tell(c), ahead) {
				t.Errorf("P17.3: faults %06b: Offer: %t, %d, want %d", set, is, e, want)
			}
		}
	}
}

// P17.1: of Known's answers OK and ErrNone are themselves; any other one,
// whatever number, says that it is no tipset.
func TestKnown(t *testing.T) {
	for _, known := range []api.Errno{math.MinInt, -1, 0, 1, 2, 3, 4, 5, 6, 7, 8, 9, 10, 11, 12, 13, 14, 15, 16, 17, 18, 19, 20, math.MaxInt} {
		want := api.ErrTipset
		if known == api.OK || known == api.ErrNone {
			want = known
		}
		v := line(1)
		v.known[key(1)] = known
		c := New(of(1), 9)
		x := link(0, 0, 1, 0)
		if e := c.Judge(x, v); e != want {
			t.Errorf("P17.1: Known %d: Judge %d, want %d", known, e, want)
		}
		switch want {
		case api.ErrNone:
			wants(t, "ErrNone", c, x, v, false, api.OK)
			stands(t, "ErrNone", c, 0, 0, of(1), nil, []cert.Cert{x})
		default:
			wants(t, "Known", c, x, v, want == api.OK, want)
			if len(c.Waiting()) != 0 {
				t.Errorf("P17.1: Known %d: it waits", known)
			}
		}
	}
}

// P17.1: whatever layer 7's Next answers but OK is ErrQuorum: also that nobody
// would be left, which is no ErrNone of a Final.
func TestQuorum(t *testing.T) {
	away := []table.Entry{{Miner: 0}, {Miner: 1}, {Miner: 2}}
	many := make([]table.Entry, 65)
	for _, x := range []struct {
		name   string
		powers table.Table
		x      cert.Cert
		want   api.Errno
	}{
		{"all", of(1, 1, 1), link(0, 0, 1, 0, 1, 2), api.OK},
		{"all, and others", of(1, 1, 1), link(0, 0, 1, 0, 1, 2, 7, 63), api.OK},
		{"two thirds", of(1, 1, 1), link(0, 0, 1, 0, 2), api.ErrQuorum},
		{"just above two thirds", of(0, 1<<40, 1<<40-1, 1<<40), link(0, 0, 1, 1, 3), api.OK},
		{"just two thirds", of(0, 1<<40, 1<<40, 1<<40), link(0, 0, 1, 1, 3), api.ErrQuorum},
		{"nobody", of(1), link(0, 0, 1), api.ErrQuorum},
		{"another one", of(1), link(0, 0, 1, 1), api.ErrQuorum},
		{"a table of nobody", table.Table{}, link(0, 0, 1, 0, 1, 2), api.ErrQuorum},
		{"nobody left", of(1, 1, 1), with(link(0, 0, 1, 0, 1, 2), away...), api.ErrQuorum},
		{"one left", of(1, 1, 1), with(link(0, 0, 1, 0, 1, 2), away[:2]...), api.OK},
		{"who comes by it", of(1), with(link(0, 0, 1, 1), table.Entry{Miner: 1, Power: 9}), api.ErrQuorum},
		{"a change that may not be", of(1), with(link(0, 0, 1, 0), table.Entry{Miner: 0, Power: -1}), api.ErrQuorum},
		{"changes that fall", of(1), with(link(0, 0, 1, 0), table.Entry{Miner: 2, Power: 1}, table.Entry{Miner: 1, Power: 1}), api.ErrQuorum},
		{"65 changes", of(1), with(link(0, 0, 1, 0), many...), api.ErrQuorum},
	} {
		c := New(x.powers, 9)
		if e := c.Judge(x.x, line(1)); e != x.want {
			t.Errorf("P17.1: %s: Judge %d, want %d", x.name, e, x.want)
		}
		wanted := x.want
		if e := x.x.Check(); e != api.OK {
			wanted = e
		}
		wants(t, x.name, c, x.x, line(1), wanted == api.OK, wanted)
	}
}

// P17.1: what is behind what is asked the right way round, and of the Final
// alone what is there and what fits; a Final that is the Base is behind itself.
func TestAsked(t *testing.T) {
	c := New(of(1), 9)
	v := line(5)
	v.known[key(0)], v.unfit[key(0)] = api.ErrTipset, 1 // of the Base
	wants(t, "one far ahead", c, link(0, 0, 3, 0), v, true, api.OK)
	wants(t, "one behind", c, link(1, 3, 2, 0), v, false, api.ErrConflict)
	wants(t, "itself", c, link(1, 3, 3, 0), v, true, api.OK)
	v.behind[key(9)] = key(1)
	wants(t, "one beside", c, link(2, 3, 9, 0), v, false, api.ErrConflict)
	wants(t, "the genesis", c, link(2, 3, 0, 0), v, false, api.ErrTipset)
	v.known[key(0)] = api.OK
	wants(t, "the genesis, which is there", c, link(2, 3, 0, 0), v, false, api.ErrConflict)
	stands(t, "all", c, 2, 3, of(1), []cert.Cert{link(0, 0, 3, 0), link(1, 3, 3, 0)}, nil)
	v.unfit[key(3)] = 1
	wants(t, "one ahead, where the Base doesn't fit", c, link(2, 3, 4, 0), v, true, api.OK)
}

// P17.1: Judge doesn't ask for the instance: it is of one that comes next.
func TestJudgeInstances(t *testing.T) {
	c := New(of(1), 9)
	wants(t, "the first one", c, link(0, 0, 1, 0), line(9), true, api.OK)
	for _, instance := range []int{math.MinInt, -1, 0, 1, 2, 1 << 30, math.MaxInt} {
		if e := c.Judge(link(instance, 1, 2, 0), line(9)); e != api.OK {
			t.Errorf("P17.1: Judge of instance %d: %d", instance, e)
		}
		if e := c.Judge(link(instance, 0, 2, 0), line(9)); e != api.ErrBase {
			t.Errorf("P17.1: Judge of instance %d: %d, want ErrBase", instance, e)
		}
	}
	if e := c.Judge(cert.Cert{}, line(9)); e != api.ErrBase {
		t.Errorf("P17.1: Judge of a zero certificate: %d", e)
	}
}

// P17.1, P17.3: each answer of Offer, where those that come later hold, too.
func TestOffer(t *testing.T) {
	c := New(of(1, 1, 1), 9)
	first, second := link(0, 0, 1, 0, 1, 2), link(1, 1, 2, 0, 1, 2)
	far := link(3, 7, 8) // of a Base that isn't final, and of nobody
	v := line(9)
	wants(t, "the first one", c, first, v, true, api.OK)
	wants(t, "one far ahead", c, far, v, false, api.OK)
	v.known[key(2)] = api.ErrNone
	wants(t, "one whose blocks aren't there", c, second, v, false, api.OK)
	waiting := []cert.Cert{second, far}
	stands(t, "two wait", c, 1, 1, of(1, 1, 1), []cert.Cert{first}, waiting)

	v.known[key(2)] = api.ErrTipset
	for _, x := range []struct {
		name string
		set  func(x *cert.Cert)
		want api.Errno
	}{
		{"an instance below 0", func(x *cert.Cert) { x.Instance = -1 }, api.ErrArg},
		{"the least instance", func(x *cert.Cert) { x.Instance = math.MinInt }, api.ErrArg},
		{"an instance that is too great", func(x *cert.Cert) { x.Instance = 1<<30 + 1 }, api.ErrArg},
		{"a zero one", func(x *cert.Cert) { *x = cert.Cert{} }, api.ErrArg},
		{"no Base", func(x *cert.Cert) { x.Base = "" }, api.ErrArg},
		{"no Final", func(x *cert.Cert) { x.Final = "" }, api.ErrArg},
		{"a Base that is no key", func(x *cert.Cert) { x.Base = x.Base[1:] }, api.ErrArg},
		{"signers that fall", func(x *cert.Cert) { x.Signers = []int{2, 1} }, api.ErrArg},
		{"65 signers", func(x *cert.Cert) { x.Instance, x.Signers = -1, make([]int, 65) }, api.ErrBig},
		{"65 changes", func(x *cert.Cert) { x.Final, x.Change = "", make([]table.Entry, 65) }, api.ErrBig},
		{"a change that may not be", func(x *cert.Cert) { x.Change = []table.Entry{{Miner: 64, Power: 1}} }, api.ErrArg},
	} {
		for _, y := range []cert.Cert{first, second, link(0, 5, 6), link(1, 1, 2), link(2, 2, 3, 0, 1, 2)} {
			x.set(&y)
			wants(t, x.name, c, y, v, false, x.want)
		}
	}
	wants(t, "one that was accepted", c, first, v, false, api.ErrHave)
	wants(t, "one that waits", c, second, v, false, api.ErrHave)
	wants(t, "one that waits far ahead", c, far, v, false, api.ErrHave)
	for _, y := range []cert.Cert{link(0, 1, 2, 0, 1, 2), link(0, 0, 1, 0, 1), link(0, 0, 2, 0, 1, 2), link(0, 1, 99, 0, 1, 2), with(first, table.Entry{Miner: 9, Power: 1})} {
		wants(t, "one below Next", c, y, v, false, api.ErrInstance)
	}
	wants(t, "another Base, of nobody", c, link(1, 0, 2), v, false, api.ErrBase)
	wants(t, "nobody, and no tipset", c, link(1, 1, 2), v, false, api.ErrQuorum)
	wants(t, "no tipset", c, link(1, 1, 2, 0, 1, 2, 3), v, false, api.ErrTipset)
	v.unfit[key(3)] = 1
	wants(t, "one that doesn't fit", c, link(1, 1, 3, 0, 1, 2), v, false, api.ErrConflict)
	stands(t, "two wait", c, 1, 1, of(1, 1, 1), []cert.Cert{first}, waiting)

	for _, y := range []cert.Cert{link(2, 0, 0), link(2, 1, 2), link(2, 1, 99), link(2, 1, 3, 0, 1, 2), link(1<<30, 2, 3, 0, 1, 2)} {
		wants(t, "one above Next, whatever is wrong with it", c, y, v, false, api.OK)
		waiting = append(waiting, y)
	}
	stands(t, "seven wait", c, 1, 1, of(1, 1, 1), []cert.Cert{first}, sorted(waiting...))
	for _, y := range waiting {
		wants(t, "one that waits, again", c, y, v, false, api.ErrHave)
	}
	wants(t, "another list of nobody, of the same name", c, cert.Cert{Instance: 3, Base: key(7), Final: key(8), Signers: []int{}, Change: []table.Entry{}}, v, false, api.ErrHave)
}

// grown answers n certificates of one chain, each signed by those who are in
// the table by the change of the one ahead alone, and the table behind them.
func grown(n int) ([]cert.Cert, table.Table) {
	var l []cert.Cert
	for i := range n {
		l = append(l, with(link(i, i, i+1, i), table.Entry{Miner: i, Power: i % 2}, table.Entry{Miner: i + 1, Power: 1<<20 + i}))
	}
	c := of(7)
	for _, x := range l {
		c, _ = x.Next(c)
	}
	return l, c
}

// P17.1, P17.2: the table changes with each certificate, by the deltas of the
// one ahead; all that is told, behind each.
func TestTables(t *testing.T) {
	l, last := grown(40)
	c, p := begin(of(7), 0)
	v := line(50)
	powers := of(7)
	for i, x := range l {
		early := l[min(i+1, len(l)-1)]
		early.Instance, early.Base = i, x.Base // its signers are in the next table alone
		if i+1 < len(l) {
			wants(t, "one of the next table", c, early, v, false, api.ErrQuorum)
		}
		if is, e := offer(t, "P17.2", c, p, x, v); !is || e != api.OK {
			t.Fatalf("P17.2: certificate %d: %t, %d", i, is, e)
		}
		powers, _ = powers.Change(x.Change...)
		stands(t, "one behind the other", c, i+1, i+1, powers, l[:i+1], nil)
	}
	if c.Table() != last || last == of(7) {
		t.Error("P17.2: another table behind all")
	}
}

// orders hands over the certificates in every order.
func orders(l []cert.Cert, do func(l []cert.Cert)) {
	var from func(i int)
	from = func(i int) {
		if i == len(l) {
			do(slices.Clone(l))
			return
		}
		for j := i; j < len(l); j++ {
			l[i], l[j] = l[j], l[i]
			from(i + 1)
			l[i], l[j] = l[j], l[i]
		}
	}
	l = slices.Clone(l)
	from(0)
}

// P17.1, P17.2: certificates of one chain, in every order, again and again, and
// with others between that are refused, or go: all are accepted.
func TestEveryOrder(t *testing.T) {
	l, last := grown(5)
	v := line(9)
	v.behind[key(30)] = "" // over nothing
	orders(l, func(order []cert.Cert) {
		c, p := begin(of(7), 64)
		d, q := begin(of(7), len(l)-1) // just as many as may wait
		for _, x := range order {
			offer(t, "P17.2", d, q, x, v)
			for _, other := range []cert.Cert{
				link(x.Instance, x.Instance, x.Instance+1), link(x.Instance, 30, 30, x.Instance), link(x.Instance, x.Instance, 30, x.Instance),
				link(-1, 0, 1), link(4, 3, 5, 4), link(0, 0, 1),
			} {
				offer(t, "P17.2", c, p, other, v)
			}
			offer(t, "P17.2", c, p, x, v)
			for range 2 {
				if is, e := offer(t, "P17.2", c, p, x, v); is || e != api.ErrHave {
					t.Fatalf("P17.1: again: %t, %d", is, e)
				}
				retry(t, "P17.2", c, p, v)
			}
		}
		stands(t, "every order", d, 5, 5, last, l, nil)
		stands(t, "every order, with others between", c, 5, 5, last, l, nil)
		for _, x := range l {
			offer(t, "P17.2", d, q, x, v)
		}
		stands(t, "every order, again", d, 5, 5, last, l, nil)
	})
}

// P17.1, P17.2: with others between that never may be, all of one chain are
// accepted, and none of the others stays.
func TestOthersBetween(t *testing.T) {
	l, last := grown(6)
	v := line(9)
	r := rand.New(rand.NewSource(17))
	var others []cert.Cert
	for i := range 6 {
		others = append(others, link(i, i, i+1, 63), link(i, i+1, i+2, i), link(i, i+8, i+9, i))
		if i > 0 {
			others = append(others, link(i, i, 0, i))
		}
	}
	for range 200 {
		c, p := begin(of(7), 64)
		all := append(slices.Clone(l), others...)
		r.Shuffle(len(all), func(i, j int) { all[i], all[j] = all[j], all[i] })
		for _, x := range all {
			offer(t, "P17.2", c, p, x, v)
		}
		stands(t, "with others between", c, 6, 6, last, l, nil)
	}
}

// P17.1: of several that wait for one instance the first one that may be is
// accepted, and the others go, whatever is to be said of them.
func TestRivals(t *testing.T) {
	v := line(9)
	for i := 2; i < 9; i++ {
		v.behind[key(i)] = key(1)
	}
	v.known[key(3)], v.known[key(4)], v.unfit[key(5)] = api.ErrNone, api.ErrArg, 1
	var may, rest []cert.Cert
	for i := range 8 {
		may = append(may, link(1, 1, 6+i%3, 0, 1+i))
		rest = append(rest, link(1, 1, 3+i%3, 0, 1+i), link(1, 1, 6, 1+i), link(1, i+2, 6, 0))
	}
	for seed := range int64(30) {
		r := rand.New(rand.NewSource(seed))
		c, p := begin(of(1), 64)
		all := append(slices.Clone(may[:r.Intn(9)]), rest[:r.Intn(25)]...)
		r.Shuffle(len(all), func(i, j int) { all[i], all[j] = all[j], all[i] })
		for _, x := range all {
			if is, e := offer(t, "P17.1", c, p, x, v); is || e != api.OK {
				t.Fatalf("P17.1: one that waits: %t, %d", is, e)
			}
		}
		if is, _ := offer(t, "P17.1", c, p, link(0, 0, 1, 0), v); !is {
			t.Fatal("P17.1: the first one isn't accepted")
		}
		able := slices.DeleteFunc(slices.Clone(all), func(x cert.Cert) bool {
			return !slices.ContainsFunc(may, func(y cert.Cert) bool { return x.ID() == y.ID() })
		})
		if len(able) > 0 {
			first := sorted(able...)[0]
			stands(t, "rivals", c, 2, slices.IndexFunc([]int{0, 1, 2, 3, 4, 5, 6, 7, 8}, func(i int) bool { return key(i) == first.Final }), of(1), []cert.Cert{link(0, 0, 1, 0), first}, nil)
			continue
		}
		for _, x := range c.Waiting() {
			if x.Final != key(3) || x.Base != key(1) || x.Signers[0] != 0 {
				t.Errorf("P17.1: one stays that never may be: %v", x)
			}
		}
		if c.Next() != 1 {
			t.Errorf("P17.1: %d accepted, want 1", c.Next())
		}
	}
}

// P17.1, P17.2: those that wait below Next go, also where all else is right by
// then, or their blocks aren't there: their instance is another one's.
func TestBelowNext(t *testing.T) {
	v := line(3)
	unseen, seen := link(0, 0, 7, 0), link(0, 0, 2, 0)
	v.known[key(2)] = api.ErrNone
	c, p := begin(of(1), 9)
	offer(t, "P17.1", c, p, unseen, v)
	offer(t, "P17.1", c, p, seen, v)
	stands(t, "two wait", c, 0, 0, of(1), nil, sorted(unseen, seen))
	v.known[key(2)] = api.OK
	stay := link(0, 0, 0, 0) // what is final stays so
	if is, e := offer(t, "P17.1", c, p, stay, v); !is || e != api.OK {
		t.Fatalf("P17.1: Final the Base: %t, %d", is, e)
	}
	stands(t, "none wait", c, 1, 0, of(1), []cert.Cert{stay}, nil)
	if n := retry(t, "P17.1", c, p, v); n != 0 {
		t.Errorf("P17.1: Retry: %d", n)
	}
	wants(t, "what went", c, seen, v, false, api.ErrInstance)
	wants(t, "one of the next instance", c, link(1, 0, 2, 0), v, true, api.OK)
}

// P17.1: at most so many wait: of one more the one of the greatest instance
// goes, of these the one of the greatest name, be it the one that comes; what
// went may come again.
func TestMost(t *testing.T) {
	var l []cert.Cert
	for i := range 70 {
		l = append(l, link(1+i*7%5, i, i+1, i%64))
	}
	v := line(3)
	for _, most := range []int{math.MinInt, -1, 0, 1, 2, 3, 63, 64, 65, math.MaxInt} {
		many := min(max(most, 0), 64)
		c, p := begin(of(1), most)
		for i, x := range l {
			if is, e := offer(t, "P17.1", c, p, x, v); is || e != api.OK {
				t.Fatalf("P17.1: of at most %d: %t, %d", most, is, e)
			}
			left := sorted(slices.Clone(l[:i+1])...)
			stands(t, "at most so many", c, 0, 0, of(1), nil, left[:min(len(left), many)])
		}
		for _, x := range l {
			_, e := offer(t, "P17.1", c, p, x, v)
			waited := slices.ContainsFunc(sorted(slices.Clone(l)...)[:many], func(y cert.Cert) bool { return x.ID() == y.ID() })
			if waited != (e == api.ErrHave) || !waited && e != api.OK {
				t.Errorf("P17.1: of at most %d: again: %d, waited: %t", most, e, waited)
			}
		}
	}
}

// P17.1: one that comes next and whose blocks aren't there goes for another one,
// or lets another one go, as those above Next do; one that may be accepted
// needs no room.
func TestMostNext(t *testing.T) {
	v := line(5)
	v.known[key(9)] = api.ErrNone
	next, far, farther := link(0, 0, 9, 0), link(1, 1, 2, 0), link(2, 2, 3, 0)
	c := New(of(1), 1)
	wants(t, "far", c, far, v, false, api.OK)
	wants(t, "farther goes itself", c, farther, v, false, api.OK)
	stands(t, "far stays", c, 0, 0, of(1), nil, []cert.Cert{far})
	wants(t, "next", c, next, v, false, api.OK)
	stands(t, "far goes", c, 0, 0, of(1), nil, []cert.Cert{next})
	wants(t, "far goes itself", c, far, v, false, api.OK)
	stands(t, "next stays", c, 0, 0, of(1), nil, []cert.Cert{next})
	first := link(0, 0, 1, 0)
	wants(t, "one that may be", c, first, v, true, api.OK)
	stands(t, "one that may be", c, 1, 1, of(1), []cert.Cert{first}, nil)
	wants(t, "far, which comes next", c, far, v, true, api.OK)

	none := New(of(1), 0)
	wants(t, "none wait: next", none, next, v, false, api.OK)
	wants(t, "none wait: far", none, far, v, false, api.OK)
	stands(t, "none wait", none, 0, 0, of(1), nil, nil)
	wants(t, "none wait: the first one", none, first, v, true, api.OK)
	wants(t, "none wait: far, which comes next", none, far, v, true, api.OK)
}

// P17.1: Retry behind a view that knows more than ahead: how many are accepted;
// behind one that knows no more: none.
func TestRetry(t *testing.T) {
	c, p := begin(of(1), 64)
	for i := range 8 {
		offer(t, "P17.1", c, p, link(i, i, i+1, 0), line(0))
		if n := retry(t, "P17.1", c, p, line(0)); n != 0 {
			t.Fatalf("P17.1: Retry: %d", n)
		}
	}
	ghost := link(3, 3, 20, 0) // never there
	offer(t, "P17.1", c, p, ghost, line(0))
	accepted := 0
	for _, x := range []struct{ there, n int }{{0, 0}, {1, 1}, {1, 0}, {3, 2}, {2, 0}, {6, 3}, {6, 0}, {20, 2}, {20, 0}} {
		if n := retry(t, "P17.1", c, p, line(x.there)); n != x.n {
			t.Errorf("P17.1: up to %d there: %d, want %d", x.there, n, x.n)
		}
		accepted += x.n
		if c.Next() != accepted || c.Final() != key(accepted) {
			t.Errorf("P17.1: up to %d there: Next %d, want %d", x.there, c.Next(), accepted)
		}
	}
	if len(c.Waiting()) != 0 || len(c.Certs()) != 8 {
		t.Errorf("P17.1: %d wait, %d were accepted", len(c.Waiting()), len(c.Certs()))
	}
}

// P17.1: Retry lets those go that are refused, and doesn't count them; one that
// isn't there yet stays, and those behind it in its instance are tried.
func TestRetryGone(t *testing.T) {
	v := line(9)
	var l []cert.Cert
	for i := range 12 {
		l = append(l, link(0, 0, 2+i%6, 0, 1+i))
	}
	l = sorted(l...)
	for accepted := range l {
		c, p := begin(of(1), 64)
		for _, x := range l {
			offer(t, "P17.1", c, p, x, line(0))
		}
		u := line(0)
		want := []cert.Cert(nil)
		for i, x := range l[:accepted+1] {
			switch {
			case x.Final == l[accepted].Final || i%3 == 0:
				u.behind[x.Final] = key(0)
			}
		}
		first := slices.IndexFunc(l, func(x cert.Cert) bool { return u.Known(x.Final) == api.OK })
		want = append(want, l[first])
		if n := retry(t, "P17.1", c, p, u); n != 1 || !reflect.DeepEqual(texts(c.Certs()), texts(want)) || len(c.Waiting()) != 0 {
			t.Errorf("P17.1: %d accepted, %d wait", n, len(c.Waiting()))
		}
	}
	for refused := range l {
		c, p := begin(of(1), 64)
		for _, x := range l {
			offer(t, "P17.1", c, p, x, line(0))
		}
		u := line(0)
		u.known[l[refused].Final] = api.ErrTipset
		left := slices.DeleteFunc(slices.Clone(l), func(x cert.Cert) bool { return x.Final == l[refused].Final })
		if n := retry(t, "P17.1", c, p, u); n != 0 || !reflect.DeepEqual(texts(c.Waiting()), texts(left)) || len(left) == len(l) {
			t.Errorf("P17.1: %d accepted, %d wait, want %d", n, len(c.Waiting()), len(left))
		}
		if is, _ := offer(t, "P17.1", c, p, link(0, 0, 1, 0), v); !is || len(c.Waiting()) != 0 {
			t.Errorf("P17.1: %t, %d wait", is, len(c.Waiting()))
		}
	}
}

// P17.1: a clone is just like its chain, and goes its own way, in both
// directions; so are clones of it.
func TestClone(t *testing.T) {
	l, _ := grown(8)
	v := line(9)
	build := func() (*Chain, *plain) {
		c, p := begin(of(7), 9)
		for _, x := range []cert.Cert{l[0], l[1], l[2], l[4], l[5]} {
			offer(t, "P17.1", c, p, x, v)
		}
		return c, p
	}
	copied := func(p *plain) *plain {
		q := *p
		q.certs, q.wait = slices.Clone(p.certs), slices.Clone(p.wait)
		return &q
	}
	c, p := build()
	d, q := c.Clone(), copied(p)
	agree(t, "P17.1", d, q)
	offer(t, "P17.1", c, p, l[7], v)
	agree(t, "P17.1", d, q)
	offer(t, "P17.1", c, p, l[3], v)
	agree(t, "P17.1", d, q)
	other := with(link(3, 3, 9, 3), table.Entry{Miner: 60, Power: 5})
	offer(t, "P17.1", d, q, other, v)
	agree(t, "P17.1", c, p)
	if c.Next() != 6 || d.Next() != 4 || len(c.Waiting()) != 1 || len(d.Waiting()) != 1 {
		t.Errorf("P17.1: %d, %d", c.Next(), d.Next())
	}

	c, p = build()
	d, q = c.Clone(), copied(p)
	offer(t, "P17.1", d, q, l[3], v)
	agree(t, "P17.1", c, p)
	e, r := c.Clone(), copied(p)
	offer(t, "P17.1", c, p, other, v)
	agree(t, "P17.1", e, r)
	agree(t, "P17.1", d, q)
	offer(t, "P17.1", e, r, l[3], v)
	offer(t, "P17.1", e, r, l[6], v)
	offer(t, "P17.1", d, q, l[6], v)
	agree(t, "P17.1", c, p)
	agree(t, "P17.1", d, r) // both went the same way
}

// inside tells whether a text's bytes stand among those of another one.
func inside(part, whole string) bool {
	at, from := uintptr(unsafe.Pointer(unsafe.StringData(part))), uintptr(unsafe.Pointer(unsafe.StringData(whole)))
	return at >= from && at < from+uintptr(len(whole))
}

// P17.1: what is handed in is neither kept nor changed, its spare room neither.
func TestHandedIn(t *testing.T) {
	signers, change := []int{0, 1, 2, 99}, []table.Entry{{Miner: 5, Power: 1}, {Miner: 6, Power: 1}}
	first := cert.Cert{Base: key(0), Final: key(1), Signers: signers[:3], Change: change[:1]}
	far := cert.Cert{Instance: 2, Base: key(2), Final: key(3), Signers: signers[:3], Change: change[:1]}
	c := New(of(1, 1, 1), 9)
	v := line(9)
	if e := c.Judge(first, v); e != api.OK {
		t.Fatalf("P17.1: Judge: %d", e)
	}
	wants(t, "the first one", c, first, v, true, api.OK)
	wants(t, "far", c, far, v, false, api.OK)
	if !slices.Equal(signers, []int{0, 1, 2, 99}) || !slices.Equal(change, []table.Entry{{Miner: 5, Power: 1}, {Miner: 6, Power: 1}}) {
		t.Errorf("P17.1: %v, %v are changed", signers, change)
	}
	ahead := tell(c)
	signers[0], change[0].Power = 7, 77
	if !reflect.DeepEqual(tell(c), ahead) {
		t.Error("P17.1: lists that are handed in are kept")
	}
	for _, x := range append(c.Certs(), c.Waiting()...) {
		for _, s := range []string{first.Base, first.Final, far.Base, far.Final} {
			if inside(x.Base, s) || inside(x.Final, s) {
				t.Error("P17.1: texts that are handed in are kept")
			}
		}
	}
}

// P17.1: what is answered shares nothing with the chain, with its clone, or
// with another answer.
func TestAnswered(t *testing.T) {
	l, _ := grown(3)
	c := New(of(7), 9)
	v := line(9)
	for _, x := range []cert.Cert{l[0], l[1], link(5, 5, 6, 1, 2, 3)} {
		c.Offer(x, v)
	}
	d := c.Clone()
	ahead := tell(c)
	lists := [][]cert.Cert{c.Certs(), c.Certs(), c.Waiting(), c.Waiting(), d.Certs(), d.Waiting()}
	var all []cert.Cert
	keys := []string{c.Final(), c.Final(), d.Final()}
	for _, l := range lists {
		all = append(all, l...)
	}
	for _, x := range all {
		keys = append(keys, x.Base, x.Final)
	}
	for i, s := range keys {
		for j, u := range keys {
			if i != j && inside(s, u) {
				t.Errorf("P17.1: answers %d and %d share a text", i, j)
			}
		}
	}
	for _, l := range lists {
		for i := range l {
			l[i].Signers[0] = 63
			if len(l[i].Change) > 0 {
				l[i].Change[0].Power = 99
			}
			l[i] = cert.Cert{}
		}
		if !reflect.DeepEqual(tell(c), ahead) || !reflect.DeepEqual(tell(d), ahead) {
			t.Error("P17.1: an answer shares memory with what is kept")
		}
	}
}

// odd is a view that fails at one of its calls: it panics, or changes the
// certificate that it is asked of.
type odd struct {
	view
	known, behind, fits func()
}

func (v odd) Known(key string) api.Errno {
	v.known()
	return v.view.Known(key)
}

func (v odd) Behind(key, base string) bool {
	v.behind()
	return v.view.Behind(key, base)
}

func (v odd) Fits(key string) bool {
	v.fits()
	return v.view.Fits(key)
}

// P1: a view that panics lets nothing be accepted, and no call panics for it.
func TestPanics(t *testing.T) {
	fine, fails := func() {}, func() { panic("no answer") }
	for i, x := range []struct {
		v    odd
		want api.Errno
	}{
		{odd{line(9), fine, fine, fine}, api.OK},
		{odd{line(9), fails, fine, fine}, api.ErrTipset},
		{odd{line(9), fine, fails, fine}, api.ErrConflict},
		{odd{line(9), fine, fine, fails}, api.ErrConflict},
		{odd{line(9), fine, fine, func() { panic(nil) }}, api.ErrConflict},
	} {
		c := New(of(1), 9)
		first := link(0, 0, 1, 0)
		if e := c.Judge(first, x.v); e != x.want {
			t.Errorf("P1: %d: Judge: %d, want %d", i, e, x.want)
		}
		wants(t, "a view that panics", c, first, x.v, x.want == api.OK, x.want)
		c = New(of(1), 9)
		wants(t, "one that waits", c, first, line(0), false, api.OK)
		if n := c.Retry(x.v); (n == 1) != (x.want == api.OK) || c.Next() != n || len(c.Waiting()) != 0 {
			t.Errorf("P1: %d: Retry: %d", i, n)
		}
	}
}

// P17.2: what is accepted is what was checked, whatever a view does with the
// lists meanwhile.
func TestViewChanges(t *testing.T) {
	x := with(link(0, 0, 1, 0), table.Entry{Miner: 3, Power: 3})
	want := x.Bytes()
	v := odd{line(9), func() {}, func() {}, func() { x.Signers[0], x.Change[0].Power = 9, -9 }}
	c := New(of(1), 9)
	if is, e := c.Offer(x, v); !is || e != api.OK || c.Certs()[0].Bytes() != want || c.Table() != of(1, 0, 0, 3) {
		t.Errorf("P17.2: %t, %d", is, e)
	}
}

// oneChain tells where the certificates that were accepted are no chain: by
// their instances, their Bases, their Quorums, and the tables between.
func oneChain(t *testing.T, c *Chain, powers table.Table) {
	t.Helper()
	last := key(0)
	for i, x := range c.Certs() {
		if x.Instance != i || x.Base != last || !powers.Quorum(x.Signers...) {
			t.Fatalf("P17.2: certificate %d has instance %d", i, x.Instance)
		}
		last = x.Final
		var e api.Errno
		powers, e = powers.Change(x.Change...)
		if e != api.OK {
			t.Fatalf("P17.2: the change of certificate %d: %d", i, e)
		}
	}
	if c.Final() != last || c.Table() != powers || c.Next() != len(c.Certs()) {
		t.Fatalf("P17.2: what is final, or the table, isn't that of the certificates")
	}
}

// anyCert answers a certificate that may fit a chain.
func anyCert(r *rand.Rand, c *Chain) cert.Cert {
	x := cert.Cert{Instance: c.Next() + []int{-1, 0, 0, 0, 0, 1, 1, 2, 3}[r.Intn(9)], Base: c.Final(), Final: key(r.Intn(12))}
	if r.Intn(3) == 0 {
		x.Base = key(r.Intn(12))
	}
	for miner := range 6 {
		if r.Intn(6) > 0 {
			x.Signers = append(x.Signers, miner)
		}
		if r.Intn(6) == 0 {
			x.Change = append(x.Change, table.Entry{Miner: miner, Power: r.Intn(3)})
		}
	}
	if r.Intn(20) == 0 {
		x.Signers = append(x.Signers, 64)
	}
	return x
}

// P17.1 to P17.3: any calls, behind a view that comes to know more and is
// marked otherwise, against plain means; what is final never goes back in it.
func TestAnyCalls(t *testing.T) {
	accepted, most := 0, []int{0, 1, 2, 3, 5, 64}
	told := map[api.Errno]int{}
	for seed := range int64(60) {
		r := rand.New(rand.NewSource(seed))
		powers := of(1+r.Intn(2), r.Intn(3), r.Intn(3), r.Intn(3), 1, 1)
		c, p := begin(powers, most[seed%6])
		v := line(0)
		var offered []cert.Cert
		for range 150 {
			x := anyCert(r, c)
			if len(offered) > 0 && r.Intn(4) == 0 {
				x = offered[r.Intn(len(offered))]
			}
			offered = append(offered, x)
			_, e := offer(t, "P17.1", c, p, x, v)
			told[e]++
			if r.Intn(8) == 0 {
				d, q := c.Clone(), *p
				q.certs, q.wait = slices.Clone(p.certs), slices.Clone(p.wait)
				offer(t, "P17.1", d, &q, anyCert(r, c), v)
				agree(t, "P17.1", c, p)
			}
			switch i := 1 + r.Intn(11); r.Intn(5) {
			case 0:
				if _, there := v.behind[key(i)]; !there {
					v.behind[key(i)] = c.Final()
				}
			case 1:
				v.unfit[key(i)] = r.Intn(4) / 3
			case 2:
				v.known[key(i)] = []api.Errno{0, 0, 0, 0, api.ErrNone, api.ErrTipset}[r.Intn(6)]
			case 3:
				last := c.Final()
				told[-1] += retry(t, "P17.1", c, p, v)
				if !v.Behind(c.Final(), last) {
					t.Fatal("P17.2: what is final goes back")
				}
			}
			oneChain(t, c, powers)
		}
		accepted += c.Next()
	}
	for _, e := range []api.Errno{-1, api.OK, api.ErrArg, api.ErrHave, api.ErrInstance, api.ErrBase, api.ErrQuorum, api.ErrTipset, api.ErrConflict} {
		if told[e] < 20 {
			t.Errorf("%d told %d times: %v", e, told[e], told)
		}
	}
	if accepted < 200 {
		t.Errorf("%d accepted", accepted)
	}
}

// P17.1: a long chain, of which all but the first one wait.
func TestLongChain(t *testing.T) {
	c := New(of(1), 64)
	var l []cert.Cert
	for i := range 65 {
		l = append(l, link(i, i, i+1, 0))
	}
	for i := 64; i > 0; i-- {
		wants(t, "from the end on", c, l[i], line(70), false, api.OK)
	}
	stands(t, "64 wait", c, 0, 0, of(1), nil, l[1:])
	wants(t, "the first one", c, l[0], line(70), true, api.OK)
	stands(t, "all", c, 65, 65, of(1), l, nil)
	if s := strings.Join(texts(c.Certs()), ""); s != strings.Join(texts(l), "") {
		t.Error("P17.1: other certificates")
	}
}
