package table

import (
	"math"
	"math/rand"
	"slices"
	"strings"
	"testing"

	"coxswain/api"
)

// full answers n entries of the miners 0, 1 .., each of another power.
func full(n int) []Entry {
	l := make([]Entry, n)
	for i := range l {
		l[i] = Entry{Miner: i, Power: i + 1}
	}
	return l
}

// made answers a table that may be.
func made(t *testing.T, l ...Entry) Table {
	t.Helper()
	x, e := New(l...)
	if e != api.OK {
		t.Fatalf("P6.1: %v: %d", l, e)
	}
	return x
}

// lists: entries, and what New and Change of a table of others answer of them.
var lists = []struct {
	name         string
	l            []Entry
	make, change api.Errno
}{
	{"none", nil, api.ErrArg, api.OK},
	{"none, of a list", []Entry{}, api.ErrArg, api.OK},
	{"miner -1", []Entry{{-1, 5}}, api.ErrArg, api.ErrArg},
	{"the least miner", []Entry{{math.MinInt, 5}}, api.ErrArg, api.ErrArg},
	{"miner 0", []Entry{{0, 5}}, api.OK, api.OK},
	{"miner 63", []Entry{{63, 5}}, api.OK, api.OK},
	{"miner 64", []Entry{{64, 5}}, api.ErrArg, api.ErrArg},
	{"the greatest miner", []Entry{{math.MaxInt, 5}}, api.ErrArg, api.ErrArg},
	{"the least power", []Entry{{3, math.MinInt}}, api.ErrArg, api.ErrArg},
	{"power -1", []Entry{{3, -1}}, api.ErrArg, api.ErrArg},
	{"power 0", []Entry{{3, 0}}, api.ErrArg, api.OK},
	{"power 1", []Entry{{3, 1}}, api.OK, api.OK},
	{"power 2^40", []Entry{{3, 1 << 40}}, api.OK, api.OK},
	{"power 2^40 + 1", []Entry{{3, 1<<40 + 1}}, api.ErrArg, api.ErrArg},
	{"the greatest power", []Entry{{3, math.MaxInt}}, api.ErrArg, api.ErrArg},
	{"power 0 among others", []Entry{{1, 2}, {2, 0}, {3, 2}}, api.ErrArg, api.OK},
	{"rising", []Entry{{0, 9}, {1, 9}, {62, 1}, {63, 2}}, api.OK, api.OK},
	{"falling", []Entry{{2, 5}, {1, 5}}, api.ErrArg, api.ErrArg},
	{"falling at the end", []Entry{{1, 5}, {3, 5}, {2, 5}}, api.ErrArg, api.ErrArg},
	{"twice", []Entry{{2, 5}, {2, 5}}, api.ErrArg, api.ErrArg},
	{"twice, with power 0", []Entry{{2, 5}, {2, 0}}, api.ErrArg, api.ErrArg},
	{"the last one wrong", []Entry{{2, 5}, {64, 5}}, api.ErrArg, api.ErrArg},
	{"the first one wrong", []Entry{{-1, 5}, {2, 5}}, api.ErrArg, api.ErrArg},
	{"64", full(64), api.OK, api.OK},
	{"65", full(65), api.ErrBig, api.ErrBig},
	{"65, of which none may be", make([]Entry, 65), api.ErrBig, api.ErrBig},
	{"64, of which none may be", make([]Entry, 64), api.ErrArg, api.ErrArg},
}

// P6.1: which entries make a table, and what is told of others.
func TestNew(t *testing.T) {
	for _, c := range lists {
		x, e := New(c.l...)
		if e != c.make {
			t.Errorf("P6.1: %s: %d, want %d", c.name, e, c.make)
		}
		if e != api.OK {
			if x != (Table{}) {
				t.Errorf("P6.1: %s: beside an error: %v", c.name, x.Entries())
			}
			continue
		}
		if !slices.Equal(x.Entries(), c.l) {
			t.Errorf("P6.1: %s: %v, want %v", c.name, x.Entries(), c.l)
		}
	}
}

// P6.1: each miner's power, and all together.
func TestPower(t *testing.T) {
	x := made(t, Entry{0, 5}, Entry{4, 1 << 40}, Entry{63, 15})
	for miner, want := range map[int]int{
		math.MinInt: 0, -64: 0, -1: 0, 0: 5, 1: 0, 3: 0, 4: 1 << 40, 5: 0, 62: 0, 63: 15, 64: 0, 128: 0, math.MaxInt: 0,
	} {
		if p := x.Power(miner); p != want {
			t.Errorf("P6.1: Power of %d: %d, want %d", miner, p, want)
		}
	}
	if x.Total() != 1<<40+20 {
		t.Errorf("P6.1: Total %d", x.Total())
	}
	great := full(64)
	for i := range great {
		great[i].Power = 1 << 40
	}
	if p := made(t, great...).Total(); p != 1<<46 {
		t.Errorf("P6.1: Total of the greatest table: %d", p)
	}
}

// P6.1: a zero Table has nobody, and no quorum; it may be changed.
func TestZeroTable(t *testing.T) {
	var x Table
	if x.Entries() != nil || x.Total() != 0 || x.Power(0) != 0 || x.Bytes() != "\x00" {
		t.Errorf("P6.1: %v, %d, %d, %x", x.Entries(), x.Total(), x.Power(0), x.Bytes())
	}
	if x.Quorum() || x.Quorum(0) || x.Quorum(0, 1, 2, 63, 64, -1) {
		t.Error("P6.1: a zero Table has a quorum")
	}
	if y, e := x.Change(); y != x || e != api.ErrNone {
		t.Errorf("P6.1: changed by none: %d", e)
	}
	if y, e := x.Change(Entry{5, 0}); y != x || e != api.ErrNone {
		t.Errorf("P6.1: changed to nobody: %d", e)
	}
	if y, e := x.Change(Entry{5, 7}); y != made(t, Entry{5, 7}) || e != api.OK {
		t.Errorf("P6.1: changed: %v, %d", y.Entries(), e)
	}
}

// P6.1: what Change tells of entries; beside an error nothing is answered.
func TestChangeErrors(t *testing.T) {
	before := []Entry{{1, 5}, {9, 6}, {40, 7}}
	x := made(t, before...)
	for _, c := range lists {
		y, e := x.Change(c.l...)
		if e != c.change {
			t.Errorf("P6.1: %s: %d, want %d", c.name, e, c.change)
		}
		if e != api.OK && y != (Table{}) {
			t.Errorf("P6.1: %s: beside an error: %v", c.name, y.Entries())
		}
		if !slices.Equal(x.Entries(), before) {
			t.Fatalf("P6.1: %s: the table itself is %v", c.name, x.Entries())
		}
		if e != api.OK {
			continue
		}
		for miner := range 64 {
			want := x.Power(miner)
			for _, entry := range c.l {
				if entry.Miner == miner {
					want = entry.Power
				}
			}
			if y.Power(miner) != want {
				t.Errorf("P6.1: %s: miner %d has %d, want %d", c.name, miner, y.Power(miner), want)
			}
		}
	}
}

// P6.1: somebody must be left; what is wrong with entries is told ahead.
func TestChangeToNobody(t *testing.T) {
	x := made(t, Entry{1, 5}, Entry{9, 6})
	for _, c := range []struct {
		l    []Entry
		want api.Errno
	}{
		{[]Entry{{1, 0}, {9, 0}}, api.ErrNone},
		{[]Entry{{1, 0}, {2, 0}, {9, 0}, {63, 0}}, api.ErrNone},
		{[]Entry{{1, 0}, {9, 1}}, api.OK},
		{[]Entry{{1, 0}, {3, 1}, {9, 0}}, api.OK},
		{[]Entry{{1, 0}}, api.OK},
		{[]Entry{{9, 0}, {1, 0}}, api.ErrArg},
		{[]Entry{{1, 0}, {9, 0}, {64, 0}}, api.ErrArg},
		{[]Entry{{1, 0}, {9, -1}}, api.ErrArg},
	} {
		y, e := x.Change(c.l...)
		if e != c.want || e != api.OK && y != (Table{}) {
			t.Errorf("P6.1: %v: %v, %d, want %d", c.l, y.Entries(), e, c.want)
		}
	}
	all := full(64)
	for i := range all {
		all[i].Power = 0
	}
	if _, e := x.Change(all...); e != api.ErrNone {
		t.Errorf("P6.1: all 64 without power: %d", e)
	}
	if _, e := x.Change(append(all, Entry{})...); e != api.ErrBig {
		t.Errorf("P6.1: 65 without power: %d", e)
	}
}

// P6.1: who signs together has more than two thirds, or hasn't.
func TestQuorum(t *testing.T) {
	three := made(t, Entry{0, 1}, Entry{1, 1}, Entry{2, 1})
	thirds := made(t, Entry{1, 5}, Entry{4, 10}, Entry{9, 15})
	odd := made(t, Entry{0, 1 << 40}, Entry{62, 1<<39 - 1}, Entry{63, 1})
	just := made(t, Entry{0, 1 << 40}, Entry{62, 1 << 39}, Entry{63, 1})
	for _, c := range []struct {
		name    string
		table   Table
		signers []int
		want    bool
	}{
		{"nobody", three, nil, false},
		{"two of three", three, []int{0, 1}, false},
		{"others two of three", three, []int{2, 0}, false},
		{"all three", three, []int{0, 1, 2}, true},
		{"all three, in another order, each twice", three, []int{2, 0, 1, 1, 0, 2}, true},
		{"two of three, each twice", three, []int{0, 1, 0, 1}, false},
		{"one, three times", three, []int{1, 1, 1}, false},
		{"two, and who isn't there", three, []int{0, 1, 3, 63}, false},
		{"two, and no miners", three, []int{0, 1, -1, 64, -2, 66, 258, math.MaxInt, math.MinInt}, false},
		{"all three, and no miners", three, []int{-1, 0, 64, 1, math.MinInt, 2, math.MaxInt}, true},
		{"no miners alone", three, []int{-1, 64}, false},
		{"exactly two thirds", thirds, []int{1, 9}, false},
		{"above", thirds, []int{9, 4}, true},
		{"half", thirds, []int{9, 9, 9}, false},
		{"below", thirds, []int{1, 4}, false},
		{"exactly two thirds of 2^40 and 2^39", odd, []int{0}, false},
		{"one more", odd, []int{0, 63}, true},
		{"just below", just, []int{0}, false},
		{"one more, which is above", just, []int{63, 0}, true},
		{"one miner alone", made(t, Entry{7, 1}), []int{7}, true},
		{"another one", made(t, Entry{7, 1}), []int{6}, false},
	} {
		if c.table.Quorum(c.signers...) != c.want {
			t.Errorf("P6.1: %s isn't %t", c.name, c.want)
		}
	}
	great := full(64)
	for i := range great {
		great[i].Power = 1 << 40
	}
	all := rand.New(rand.NewSource(6)).Perm(64)
	for n := range 65 {
		if made(t, great...).Quorum(all[:n]...) != (n > 42) {
			t.Errorf("P6.1: %d of 64", n)
		}
	}
}

// among answers the miners whose bit is set.
func among(l []Entry, set int) []int {
	var miners []int
	for i, x := range l {
		if set>>i&1 == 1 {
			miners = append(miners, x.Miner)
		}
	}
	return miners
}

// P6.2: two Quorums of one table have a signer in common: no miners, and none
// of the others, are one each. Who signs more has no less.
func TestTwoQuorums(t *testing.T) {
	r := rand.New(rand.NewSource(62))
	for range 60 {
		var l []Entry
		for miner := range 64 {
			if len(l) < 8 && r.Intn(8) == 0 || miner == 63 {
				l = append(l, Entry{miner, 1 + r.Intn(1<<uint(r.Intn(41)))})
			}
		}
		x := made(t, l...)
		most := 1<<len(l) - 1
		for set := range most + 1 {
			signed := x.Quorum(among(l, set)...)
			if signed && x.Quorum(among(l, most^set)...) {
				t.Errorf("P6.2: %v: %v and all others", l, among(l, set))
			}
			if more := set | 1<<r.Intn(len(l)); signed && !x.Quorum(among(l, more)...) {
				t.Errorf("P6.2: %v: %v, but not %v", l, among(l, set), among(l, more))
			}
		}
		if !x.Quorum(among(l, most)...) {
			t.Errorf("P6.2: %v: all together", l)
		}
	}
}

// P6.3: tables' bytes, there and back.
func TestThereAndBack(t *testing.T) {
	for _, c := range []struct {
		l    []Entry
		want string
	}{
		{[]Entry{{0, 1}}, "\x01\x01\x00\x01\x01"},
		{[]Entry{{63, 1 << 40}}, "\x01\x01\x01\x3f\x06\x01\x00\x00\x00\x00\x00"},
		{[]Entry{{1, 5}, {4, 10}, {9, 256}}, "\x01\x03\x01\x01\x01\x05\x01\x04\x01\x0a\x01\x09\x02\x01\x00"},
	} {
		x := made(t, c.l...)
		if s := x.Bytes(); s != c.want {
			t.Errorf("P6.3: %v: %x, want %x", c.l, s, c.want)
		}
		if y, e := Parse(c.want); y != x || e != api.OK {
			t.Errorf("P6.3: %x: %v, %d", c.want, y.Entries(), e)
		}
	}
	r := rand.New(rand.NewSource(63))
	for range 500 {
		var l []Entry
		for miner := range 64 {
			if r.Intn(1+r.Intn(20)) == 0 {
				l = append(l, Entry{miner, 1 + r.Intn(1<<uint(r.Intn(41)))})
			}
		}
		if len(l) == 0 {
			continue
		}
		x := made(t, l...)
		if y, e := Parse(x.Bytes()); y != x || e != api.OK || !slices.Equal(y.Entries(), l) {
			t.Errorf("P6.3: %v comes back as %v, %d", l, y.Entries(), e)
		}
	}
	great := made(t, full(64)...)
	if y, e := Parse(great.Bytes()); y != great || e != api.OK {
		t.Errorf("P6.3: 64 entries: %d", e)
	}
}

// P6.3: bytes that are no table's, and what is told of them first.
func TestWrongBytes(t *testing.T) {
	sixtyFour := made(t, full(64)...).Bytes()
	for _, c := range []struct {
		name, bytes string
		want        api.Errno
	}{
		{"none", "", api.ErrEnd},
		{"nobody", "\x00", api.ErrArg},
		{"nobody, and bytes left", "\x00\x00", api.ErrForm},
		{"bytes left", "\x01\x01\x00\x01\x01\x00", api.ErrForm},
		{"bytes left, and miners that fall", "\x01\x02\x01\x02\x01\x05\x01\x01\x01\x05\x00", api.ErrForm},
		{"no entry", "\x01\x01", api.ErrEnd},
		{"more entries than bytes", "\x01\x40\x00", api.ErrEnd},
		{"more entries than bytes, a wrong number among these", "\x01\x40\x09", api.ErrForm},
		{"more entries than bytes, a number too great among these", "\x01\x40\x06\x01\x00\x00\x00\x00\x01", api.ErrBig},
		{"no power", "\x01\x01\x01\x03", api.ErrEnd},
		{"64 entries, without the last byte", sixtyFour[:len(sixtyFour)-1], api.ErrEnd},
		{"64 entries, and a byte", sixtyFour + "\x00", api.ErrForm},
		{"65 entries", "\x01\x41" + sixtyFour[2:] + "\x01\x3f\x01\x01", api.ErrBig},
		{"65 entries, then nothing", "\x01\x41", api.ErrBig},
		{"how many, in a wrong form", "\x02\x00\x01\x00\x01\x01", api.ErrForm},
		{"a power in a wrong form", "\x01\x01\x00\x02\x00\x01", api.ErrForm},
		{"power 0", "\x01\x01\x00\x00", api.ErrArg},
		{"power 2^40 + 1", "\x01\x01\x00\x06\x01\x00\x00\x00\x00\x01", api.ErrBig},
		{"power 2^40 + 1, and bytes left", "\x01\x01\x00\x06\x01\x00\x00\x00\x00\x01\x00", api.ErrBig},
		{"miner 64", "\x01\x01\x01\x40\x01\x01", api.ErrArg},
		{"miner 2^40", "\x01\x01\x06\x01\x00\x00\x00\x00\x00\x01\x01", api.ErrArg},
		{"miner 2^40 + 1", "\x01\x01\x06\x01\x00\x00\x00\x00\x01\x01\x01", api.ErrBig},
		{"miner 2^40 + 1, then nothing", "\x01\x01\x06\x01\x00\x00\x00\x00\x01", api.ErrBig},
		{"miners that fall", "\x01\x02\x01\x02\x01\x05\x01\x01\x01\x05", api.ErrArg},
		{"a miner twice", "\x01\x02\x01\x02\x01\x05\x01\x02\x01\x05", api.ErrArg},
		{"miners that fall, a byte wanting", "\x01\x02\x01\x02\x01\x05\x01\x01\x01", api.ErrEnd},
	} {
		x, e := Parse(c.bytes)
		if e != c.want || x != (Table{}) {
			t.Errorf("P6.3: %s: %v, %d, want %d", c.name, x.Entries(), e, c.want)
		}
	}
}

// P6.3: of bytes that were changed anywhere there is no table, or one whose
// bytes they are; each beginning of them is told to be too short.
func TestOneTableAlone(t *testing.T) {
	s := made(t, Entry{1, 5}, Entry{4, 10}, Entry{9, 256}).Bytes()
	for i := range len(s) {
		if x, e := Parse(s[:i]); e != api.ErrEnd || x != (Table{}) {
			t.Errorf("P6.3: the first %d bytes: %v, %d", i, x.Entries(), e)
		}
		for b := range 256 {
			changed := s[:i] + string([]byte{byte(b)}) + s[i+1:]
			x, e := Parse(changed)
			if e == api.OK && x.Bytes() != changed || e != api.OK && x != (Table{}) {
				t.Errorf("P6.3: byte %d as %02x is read as %v, %d", i, b, x.Entries(), e)
			}
		}
	}
	if _, e := Parse(strings.Repeat("\xff", 100)); e != api.ErrForm {
		t.Errorf("P6.3: bytes of no form: %d", e)
	}
}

// P6.1: tables are the same just if their entries are, however they came to be
// so.
func TestSame(t *testing.T) {
	x := made(t, Entry{1, 5}, Entry{4, 10})
	y, _ := made(t, Entry{1, 7}, Entry{4, 10}, Entry{63, 2}).Change(Entry{1, 5}, Entry{2, 0}, Entry{63, 0})
	z, _ := made(t, Entry{4, 10}).Change(Entry{1, 5})
	same, _ := x.Change()
	if x != y || x != z || x != same {
		t.Errorf("P6.1: %v, %v, %v, %v aren't the same", x.Entries(), y.Entries(), z.Entries(), same.Entries())
	}
	for _, l := range [][]Entry{{{1, 5}}, {{4, 10}}, {{1, 5}, {4, 11}}, {{1, 5}, {5, 10}}, {{0, 1}, {1, 5}, {4, 10}}, {{1, 5}, {4, 10}, {63, 1}}} {
		if x == made(t, l...) {
			t.Errorf("P6.1: %v is the same as %v", l, x.Entries())
		}
	}
}

// P6.1: no call changes what it is handed, or the spare room behind it; no
// answer shares memory with it, or with another one.
func TestMemory(t *testing.T) {
	room := []Entry{{1, 5}, {4, 10}, {9, 15}, {10, 1}}
	before := slices.Clone(room)
	signers := []int{9, 4, 9, -1, 64, 1, 7}
	asked := slices.Clone(signers)
	x := made(t, room[:2]...)
	y, _ := x.Change(room[:3]...)
	y.Quorum(signers[:5]...)
	if !slices.Equal(room, before) || !slices.Equal(signers, asked) {
		t.Errorf("P6.1: what was handed in is %v, %v", room, signers)
	}
	room[0].Power, room[1].Power = 77, 88
	if x.Power(1) != 5 || x.Power(4) != 10 || y.Power(1) != 5 || y.Power(4) != 10 {
		t.Error("P6.1: a table keeps what was handed in")
	}
	a, b := x.Entries(), x.Entries()
	a[0].Power = 99
	if b[0].Power != 5 || x.Power(1) != 5 || x.Entries()[0].Power != 5 {
		t.Error("P6.1: answers of Entries share memory")
	}
}
