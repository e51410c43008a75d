package tipset

import (
	"math"
	"math/rand"
	"reflect"
	"slices"
	"strings"
	"testing"
	"unsafe"

	"coxswain/api"
	"coxswain/header"
)

// sibling answers a header of a miner, of one Family with all of its kind.
func sibling(miner int) header.Header {
	return header.Header{
		Height: 4, Miner: miner, Ticket: "t" + string(rune('a'+miner)), Wins: miner + 1, Power: 9,
		Parents: []api.ID{{1}, {2}}, Salt: 10 * miner,
	}
}

// siblings answers n blocks of one tipset.
func siblings(n int) []Block {
	var l []Block
	for miner := range n {
		l = append(l, Make(sibling(miner)))
	}
	return l
}

// named answers a block of a name and a ticket that are handed in.
func named(first byte, miner int, ticket string) Block {
	h := sibling(miner)
	h.Ticket = ticket
	return Block{ID: api.ID{first}, Header: h}
}

// made answers the tipset of blocks.
func made(t *testing.T, l ...Block) Tipset {
	t.Helper()
	x, e := New(l...)
	if e != api.OK || x.Zero() {
		t.Fatalf("no tipset of %v: %d", l, e)
	}
	return x
}

// P8.1: a block is a header, as it is, and its name.
func TestMake(t *testing.T) {
	for _, h := range []header.Header{sibling(3), header.Genesis(), {}, {Height: -1, Miner: -1, Power: math.MaxUint64, Parents: []api.ID{{2}, {1}, {1}}}} {
		if b := Make(h); b.ID != h.ID() || !reflect.DeepEqual(b.Header, h) {
			t.Errorf("P8.1: %v: %v", h, b)
		}
	}
}

// change answers the header of a miner beside the other siblings, changed.
func change(miner int, set func(h *header.Header)) Block {
	h := sibling(miner)
	set(&h)
	return Make(h)
}

// P8.1: which blocks are a tipset, and what is told of others.
func TestNew(t *testing.T) {
	a, b := Make(sibling(0)), Make(sibling(1))
	alias := b
	alias.ID = a.ID
	other := a
	other.ID = api.ID{7}
	for _, c := range []struct {
		name string
		l    []Block
		want api.Errno
	}{
		{"nil", nil, api.ErrTipset},
		{"none", []Block{}, api.ErrTipset},
		{"1", siblings(1), api.OK},
		{"2", siblings(2), api.OK},
		{"5", siblings(5), api.OK},
		{"6", siblings(6), api.ErrBig},
		{"300", siblings(300), api.ErrBig},
		{"6, all of them one", []Block{a, a, a, a, a, a}, api.ErrBig},
		{"6, of unlike families", append(siblings(5), Make(header.Genesis())), api.ErrBig},
		{"6 zero ones", make([]Block, 6), api.ErrBig},
		{"a zero one", make([]Block, 1), api.OK},
		{"two zero ones", make([]Block, 2), api.ErrTipset},
		{"one twice", []Block{a, a}, api.ErrTipset},
		{"one twice, at both ends", append(siblings(4), a), api.ErrTipset},
		{"two of one miner", []Block{a, change(0, func(h *header.Header) { h.Salt++ })}, api.ErrTipset},
		{"two of one miner, last ones of 5", append(siblings(4), change(3, func(h *header.Header) { h.Salt++ })), api.ErrTipset},
		{"two of one name", []Block{a, alias}, api.ErrTipset},
		{"two of one name, last ones of 4", []Block{Make(sibling(2)), Make(sibling(3)), a, alias}, api.ErrTipset},
		{"two names of one header", []Block{a, other}, api.ErrTipset},
		{"another name than the header's", []Block{other, b}, api.OK},
		{"two heights", []Block{a, change(1, func(h *header.Header) { h.Height++ })}, api.ErrTipset},
		{"two powers", []Block{a, change(1, func(h *header.Header) { h.Power++ })}, api.ErrTipset},
		{"more parents", []Block{a, change(1, func(h *header.Header) { h.Parents = []api.ID{{1}, {2}, {3}} })}, api.ErrTipset},
		{"fewer parents", []Block{a, change(1, func(h *header.Header) { h.Parents = []api.ID{{1}} })}, api.ErrTipset},
		{"other parents", []Block{a, change(1, func(h *header.Header) { h.Parents = []api.ID{{1}, {1, 1}} })}, api.ErrTipset},
		{"no parents", []Block{a, change(1, func(h *header.Header) { h.Parents = nil })}, api.ErrTipset},
		{"the last one of another height", append(siblings(4), change(4, func(h *header.Header) { h.Height-- })), api.ErrTipset},
		{"the first one of another height", append([]Block{change(4, func(h *header.Header) { h.Height-- })}, siblings(4)...), api.ErrTipset},
		{"parents in another order, one twice", []Block{a, change(1, func(h *header.Header) { h.Parents = []api.ID{{2}, {1}, {2}} })}, api.OK},
		{"other tickets, wins and salts alone", []Block{a, change(1, func(h *header.Header) { h.Ticket, h.Wins, h.Salt = "", -1, -1 })}, api.OK},
		{"miners that may not be", []Block{change(1, func(h *header.Header) { h.Miner = -1 }), change(1, func(h *header.Header) { h.Miner = 64 })}, api.OK},
		{"two of miner 64", []Block{change(1, func(h *header.Header) { h.Miner = 64 }), change(2, func(h *header.Header) { h.Miner = 64 })}, api.ErrTipset},
	} {
		x, e := New(c.l...)
		if e != c.want || x.Zero() != (e != api.OK) || e == api.OK && len(x.Blocks()) != len(c.l) {
			t.Errorf("P8.1: %s: %d, want %d", c.name, e, c.want)
		}
		if e != api.OK && !reflect.DeepEqual(x, Tipset{}) {
			t.Errorf("P8.1: %s: beside an error: %v", c.name, x)
		}
	}
}

// P8.1: what a tipset tells of its blocks.
func TestCalls(t *testing.T) {
	for n := 1; n <= 5; n++ {
		l := siblings(n)
		x := made(t, l...)
		byName := slices.Clone(l)
		slices.SortFunc(byName, func(a, b Block) int { return strings.Compare(string(a.ID[:]), string(b.ID[:])) })
		key := ""
		for _, b := range byName {
			key += string(b.ID[:])
			if !x.Has(b.ID) {
				t.Errorf("P8.1: %d: %x isn't there", n, b.ID)
			}
		}
		if !reflect.DeepEqual(x.Blocks(), byName) || x.Key() != key {
			t.Errorf("P8.1: %d: %v, %x, want %v, %x", n, x.Blocks(), x.Key(), byName, key)
		}
		if x.Parents() != header.Key(api.ID{1}, api.ID{2}) || x.Height() != 4 || x.Power() != 9 || x.Wins() != n*(n+1)/2 || x.Ticket() != "ta" {
			t.Errorf("P8.1: %d: %x, %d, %d, %d, %q", n, x.Parents(), x.Height(), x.Power(), x.Wins(), x.Ticket())
		}
		near := l[0].ID
		near[31] ^= 1
		if x.Has(near) || x.Has(api.ID{}) || x.Has(Make(sibling(n)).ID) || x.Has(api.ID{1}) {
			t.Errorf("P8.1: %d: it has what isn't there", n)
		}
	}
}

// P8.1: names rise by their bytes, as they do in a key.
func TestNamesRise(t *testing.T) {
	x := made(t, named(0x80, 1, "b"), named(0, 2, "b"), named(0xff, 3, "a"), named(0x7f, 4, "c"))
	var first []byte
	for _, b := range x.Blocks() {
		first = append(first, b.ID[0])
	}
	if string(first) != "\x00\x7f\x80\xff" {
		t.Errorf("P8.1: %x", first)
	}
	if names, ok := header.Names(x.Key()); !ok || len(names) != 4 {
		t.Errorf("P8.1: %x is no key", x.Key())
	}
	if !x.Has(api.ID{}) {
		t.Error("P8.1: the name of noughts isn't there")
	}
}

// P8.1: the least of the tickets, wherever it stands; wins as they are.
func TestTicketAndWins(t *testing.T) {
	for _, c := range []struct {
		tickets []string
		want    string
	}{
		{[]string{"m"}, "m"},
		{[]string{"m", "c"}, "c"},
		{[]string{"c", "m"}, "c"},
		{[]string{"ca", "c", "cb"}, "c"},
		{[]string{"\x80", "\x7f\xff"}, "\x7f\xff"},
		{[]string{"a", "", "b"}, ""},
		{[]string{"e", "d", "c", "b", "ab"}, "ab"},
		{[]string{"same", "same"}, "same"},
	} {
		var l []Block
		for i, ticket := range c.tickets {
			l = append(l, named(byte(i), i, ticket))
		}
		if x := made(t, l...); x.Ticket() != c.want {
			t.Errorf("P8.1: of %q: %q, want %q", c.tickets, x.Ticket(), c.want)
		}
	}
	x := made(t, change(0, func(h *header.Header) { h.Wins = -7 }), change(1, func(h *header.Header) { h.Wins = 1 << 40 }))
	if x.Wins() != 1<<40-7 {
		t.Errorf("P8.1: wins %d", x.Wins())
	}
}

// P8.1: the genesis has height 0, power 2, and no parents.
func TestGenesis(t *testing.T) {
	x := Genesis()
	root := header.Root()
	if x.Height() != 0 || x.Power() != 2 || x.Parents() != "" || x.Wins() != 0 || x.Ticket() != "" || x.Zero() {
		t.Errorf("P8.1: %v", x)
	}
	if x.Key() != string(root[:]) || !x.Has(root) || x.Has(api.ID{}) {
		t.Errorf("P8.1: %x", x.Key())
	}
	if !reflect.DeepEqual(x.Blocks(), []Block{Make(header.Genesis())}) || !reflect.DeepEqual(x, made(t, Make(header.Genesis()))) {
		t.Errorf("P8.1: %v", x.Blocks())
	}
}

// P8.1: of a zero Tipset all is zero.
func TestZero(t *testing.T) {
	var x Tipset
	if x.Blocks() != nil || x.Key() != "" || x.Parents() != "" || x.Height() != 0 || x.Power() != 0 || x.Wins() != 0 || x.Ticket() != "" {
		t.Errorf("P8.1: %v", x)
	}
	if !x.Zero() || x.Has(api.ID{}) || x.Has(header.Root()) {
		t.Error("P8.1: a zero Tipset has blocks")
	}
	if Compare(x, Tipset{}) != 0 || Compare(x, Genesis()) != -1 || Compare(Genesis(), x) != 1 {
		t.Error("P8.1: a zero Tipset compared")
	}
}

// P8.1: by the tickets, then by the keys.
func TestCompare(t *testing.T) {
	rising := []Tipset{ // each below those behind it
		{},
		made(t, named(9, 1, "")),
		made(t, named(8, 1, "c")),
		made(t, named(8, 1, "c"), named(9, 2, "z")),
		made(t, named(8, 1, "m"), named(10, 2, "c")),
		made(t, named(9, 1, "c")),
		made(t, named(0x80, 1, "c")),
		made(t, named(1, 1, "ca")),
		made(t, named(7, 1, "cb"), named(0, 2, "d")),
		made(t, named(0, 1, "\x80")),
	}
	for i, a := range rising {
		for j, b := range rising {
			want := 0
			if i < j {
				want = -1
			} else if i > j {
				want = 1
			}
			if Compare(a, b) != want {
				t.Errorf("P8.1: %d beside %d: %d", i, j, Compare(a, b))
			}
		}
	}
	a, b := made(t, siblings(3)...), made(t, siblings(3)...)
	if Compare(a, b) != 0 {
		t.Error("P8.1: a tipset beside itself")
	}
}

// orders calls do with each order of the blocks.
func orders(l []Block, do func([]Block)) {
	if len(l) == 0 {
		do(nil)
		return
	}
	for i := range l {
		rest := slices.Concat(l[:i], l[i+1:])
		orders(rest, func(behind []Block) { do(append([]Block{l[i]}, behind...)) })
	}
}

// P8.2: in whatever order blocks come, the tipset is the same, in each call;
// and so is what is told of blocks that are none.
func TestOrders(t *testing.T) {
	for n := 1; n <= 5; n++ {
		x := made(t, siblings(n)...)
		count := 0
		orders(siblings(n), func(l []Block) {
			count++
			if y := made(t, l...); !reflect.DeepEqual(x, y) || x.Key() != y.Key() || !reflect.DeepEqual(x.Blocks(), y.Blocks()) || Compare(x, y) != 0 {
				t.Errorf("P8.2: %d blocks: %x, want %x", n, y.Key(), x.Key())
			}
		})
		if count != []int{1, 1, 2, 6, 24, 120}[n] {
			t.Fatalf("P8.2: %d orders of %d blocks", count, n)
		}
	}
	wrong := append(siblings(3), change(1, func(h *header.Header) { h.Salt++ }))
	orders(wrong, func(l []Block) {
		if x, e := New(l...); e != api.ErrTipset || !x.Zero() {
			t.Errorf("P8.2: two of one miner, in some order: %d", e)
		}
	})
}

// P8.2: also of blocks of one Family whose heights, powers or parents aren't
// told in one way.
func TestOrdersOfOddBlocks(t *testing.T) {
	odd := func(miner, height int, power uint64, parents ...api.ID) Block {
		return Make(header.Header{Miner: miner, Height: height, Power: power, Parents: parents})
	}
	l := []Block{
		odd(1, -1, 0, api.ID{1}, api.ID{2}), odd(2, 0, 1<<63, api.ID{2}, api.ID{1}),
		odd(3, math.MinInt, math.MaxUint64, api.ID{1}, api.ID{2}, api.ID{2}), odd(4, -7, 0, api.ID{2}, api.ID{1}),
	}
	x := made(t, l...)
	if x.Parents() != header.Key(api.ID{1}, api.ID{2}) {
		t.Errorf("P8.1: parents %x", x.Parents())
	}
	orders(l, func(l []Block) {
		y := made(t, l...)
		if y.Height() != x.Height() || y.Power() != x.Power() || y.Parents() != x.Parents() || y.Wins() != x.Wins() || y.Key() != x.Key() {
			t.Errorf("P8.2: %d, %d, want %d, %d", y.Height(), y.Power(), x.Height(), x.Power())
		}
	})
}

// P8.1: no call changes what it is handed, or the spare room behind it.
func TestNothingChanged(t *testing.T) {
	r := rand.New(rand.NewSource(8))
	for range 20 {
		room := siblings(6)
		r.Shuffle(len(room), func(i, j int) { room[i], room[j] = room[j], room[i] })
		room[0].Header.Parents = []api.ID{{2}, {1}, {1}, {9}}[:3]
		before := slices.Clone(room)
		New(room[:4]...)
		New(room...)
		Make(room[0].Header)
		if !reflect.DeepEqual(room, before) || !slices.Equal(room[0].Header.Parents[:4], []api.ID{{2}, {1}, {1}, {9}}) {
			t.Fatalf("P8.1: %v, want %v", room, before)
		}
	}
}

// P8.1: neither a block nor a tipset keeps what was handed in, and no answer
// shares memory with it, or with another one.
func TestNothingShared(t *testing.T) {
	h := sibling(0)
	a, b := Make(h), Make(h)
	h.Parents[0] = api.ID{9}
	a.Header.Parents[1] = api.ID{9}
	if !reflect.DeepEqual(b.Header, sibling(0)) || a.Header.Parents[0] != (api.ID{1}) {
		t.Errorf("P8.1: blocks share parents: %v", b)
	}
	l := siblings(3)
	x := made(t, l...)
	want := made(t, siblings(3)...).Blocks()
	l[0].Header.Parents[0], l[1].Header.Parents[0], l[2].Header.Parents[0] = api.ID{9}, api.ID{9}, api.ID{9}
	l[0].ID = api.ID{9}
	if !reflect.DeepEqual(x.Blocks(), want) || x.Parents() != header.Key(api.ID{1}, api.ID{2}) {
		t.Error("P8.1: a tipset keeps what was handed in")
	}
	one, two := x.Blocks(), x.Blocks()
	one[0].ID, one[1].Header.Parents[1] = api.ID{}, api.ID{9}
	if !reflect.DeepEqual(two, want) || !reflect.DeepEqual(x.Blocks(), want) || x.Has(api.ID{}) {
		t.Error("P8.1: answers of Blocks share memory")
	}
	two[0].Header.Parents[0] = api.ID{9}
	if two[1].Header.Parents[0] != (api.ID{1}) {
		t.Error("P8.1: blocks of one answer share parents")
	}
	g := Genesis()
	g.Blocks()[0].ID = api.ID{}
	if !g.Has(header.Root()) || !Genesis().Has(header.Root()) {
		t.Error("P8.1: genesis tipsets share memory")
	}
}

// P8.1: tickets are new memory, too.
func TestTicketsNotShared(t *testing.T) {
	h := sibling(0)
	h.Ticket = strings.Repeat("t", 8)
	b := Make(h)
	x := made(t, b)
	tickets := []string{h.Ticket, b.Header.Ticket, x.Ticket(), x.Ticket(), x.Blocks()[0].Header.Ticket}
	seen := map[*byte]int{}
	for _, ticket := range tickets {
		seen[unsafe.StringData(ticket)]++
	}
	if len(seen) != len(tickets) {
		t.Error("P8.1: tickets share memory")
	}
}
