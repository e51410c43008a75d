package order

import (
	"math"
	"math/big"
	"math/rand"
	"slices"
	"strings"
	"testing"

	"coxswain/api"
	"coxswain/cert"
	"coxswain/codec"
	"coxswain/command"
	"coxswain/header"
	"coxswain/state"
	"coxswain/table"
)

// roomy answers a config of room enough: miner 0 signs alone.
func roomy() state.Config {
	return state.Config{Orphans: 64, Holds: 64, Waits: 64, Cache: 9, Table: []table.Entry{{Miner: 0, Power: 1}}}
}

// key answers the key of headers (of none: that of the genesis).
func key(l ...header.Header) string {
	if len(l) == 0 {
		return header.Key(header.Root())
	}
	var names []api.ID
	for _, h := range l {
		names = append(names, h.ID())
	}
	return header.Key(names...)
}

// over answers a header over a tipset of these (none: the genesis).
func over(height, miner, wins int, ticket string, parents ...header.Header) header.Header {
	h := header.Header{Height: height, Miner: miner, Ticket: ticket, Wins: wins, Power: 2}
	h.Parents, _ = header.Names(key(parents...))
	return h
}

// block and link answer the commands that tell of a header, and of a
// certificate that miner 0 signs.
func block(h header.Header) command.Command {
	return command.Block{Bytes: h.Bytes(), Right: true}
}

func link(instance int, base, final string) command.Command {
	return command.Cert{Bytes: linked(instance, base, final).Bytes(), Right: true}
}

func linked(instance int, base, final string) cert.Cert {
	return cert.Cert{Instance: instance, Base: base, Final: final, Signers: []int{0}}
}

// come answers the state behind commands that none is to be refused of.
func come(t *testing.T, l ...command.Command) *state.State {
	t.Helper()
	s, refused, e := Run(roomy(), l)
	if e != api.OK || refused != 0 {
		t.Fatalf("P27.1: Run: %d refused, %d", refused, e)
	}
	return s
}

// letters answers commands, one for each letter.
func letters(s string) []command.Command {
	var l []command.Command
	for _, x := range strings.Split(s, "") {
		l = append(l, command.Block{Bytes: x})
	}
	return l
}

// text answers the letters of commands.
func text(l []command.Command) string {
	var s strings.Builder
	for _, c := range l {
		s.WriteString(c.(command.Block).Bytes)
	}
	return s.String()
}

// roomed answers the letters' commands with room behind them, and all of that.
func roomed(s string) ([]command.Command, []command.Command) {
	all := append(letters(s), letters("xyz")...)
	return all[:len(s)], all
}

// P27.1: the chapter's example, no picks, fewer and more than there are
// commands, picks below 0, beyond how many are left, the least and the greatest.
func TestShuffle(t *testing.T) {
	for _, x := range []struct {
		l     string
		picks []int
		want  string
	}{
		{"abc", []int{2, 0}, "cab"},
		{"", nil, ""}, {"", []int{0, 3, -1}, ""},
		{"abcd", nil, "abcd"}, {"abcd", []int{}, "abcd"},
		{"abcd", []int{3}, "dabc"}, {"abcd", []int{1, 1, 1}, "bcda"}, {"abcd", []int{0, 0, 0, 0}, "abcd"},
		{"abcd", []int{3, 2, 1, 0}, "dcba"}, {"abcd", []int{3, 2, 1, 0, 1, 2, -5}, "dcba"},
		{"abcd", []int{4}, "abcd"}, {"abcd", []int{5}, "bacd"}, {"abcd", []int{6, 3, 3, 9}, "cadb"},
		{"abcd", []int{-1}, "dabc"}, {"abcd", []int{-2}, "cabd"}, {"abcd", []int{-4}, "abcd"}, {"abcd", []int{-5}, "dabc"}, {"abcd", []int{-8}, "abcd"},
		{"abcd", []int{-1, -1, -1, -1}, "dcba"}, {"abcd", []int{-2, -4, -3}, "cdba"},
		{"abc", []int{math.MinInt}, "bac"}, // 2^63 is 2 modulo 3
		{"abcd", []int{math.MinInt, math.MinInt}, "acbd"},
		{"abc", []int{math.MaxInt}, "bac"}, // 2^63 - 1 is 1 modulo 3
		{"abcd", []int{math.MaxInt}, "dabc"},
		{"a", []int{math.MinInt, math.MaxInt}, "a"},
	} {
		if got := text(Shuffle(letters(x.l)[:len(x.l)], x.picks)); got != x.want {
			t.Errorf("P27.1: Shuffle of %s by %v: %s, wanted %s", x.l, x.picks, got, x.want)
		}
	}
	if l := Shuffle(nil, []int{1}); len(l) != 0 {
		t.Errorf("P27.1: Shuffle of none: %v", l)
	}
}

// P27.1: the list that was given, its spare room and the picks stay as they
// were, and share nothing with what is answered.
func TestKeep(t *testing.T) {
	picks := []int{2, -1, 7}
	for name, f := range map[string]func(l []command.Command) []command.Command{
		"Shuffle":      func(l []command.Command) []command.Command { return Shuffle(l, picks) },
		"Shuffle by 0": func(l []command.Command) []command.Command { return Shuffle(l, nil) },
		"Double":       func(l []command.Command) []command.Command { return Double(l, picks) },
		"Double by 0":  func(l []command.Command) []command.Command { return Double(l, nil) },
		"Sound":        Sound,
	} {
		l, all := roomed("abcd")
		for i := range 3 {
			l[i] = command.Block{Bytes: text(l[i : i+1]), Right: true}
		}
		was := slices.Clone(all)
		got := f(l)
		if !slices.Equal(all, was) || !slices.Equal(picks, []int{2, -1, 7}) {
			t.Errorf("P27.1: %s changes what it is given: %v", name, all)
		}
		answered := slices.Clone(got)
		for i := range all {
			all[i] = nil
		}
		if !slices.Equal(got, answered) {
			t.Errorf("P27.1: %s keeps what it is given", name)
		}
		if slices.Contains(append(got, nil, nil)[:len(got)], nil) || !slices.Equal(was[4:], letters("xyz")) {
			t.Errorf("P27.1: %s: %v", name, got)
		}
	}
}

// modulo answers a pick modulo n, from 0 on, by numbers without end.
func modulo(pick, n int) int {
	return int(new(big.Int).Mod(big.NewInt(int64(pick)), big.NewInt(int64(n))).Int64())
}

// pick answers any number, often a small one.
func pick(r *rand.Rand) int {
	switch r.Intn(4) {
	case 0:
		return int(r.Uint64())
	case 1:
		return []int{math.MinInt, math.MinInt + 1, math.MaxInt, math.MaxInt - 1}[r.Intn(4)]
	}
	return r.Intn(41) - 20
}

// P27.1, P1: any picks against plain means: each command comes once; and behind
// a list each one picked.
func TestAnyPicks(t *testing.T) {
	r := rand.New(rand.NewSource(1))
	for range 3000 {
		s := "abcdefghijklmnop"[:r.Intn(17)]
		var picks []int
		for range r.Intn(20) {
			picks = append(picks, pick(r))
		}
		left, shuffled, doubled := s, "", s
		for _, p := range picks {
			if s != "" {
				doubled += s[modulo(p, len(s)):][:1]
			}
			if left != "" {
				i := modulo(p, len(left))
				shuffled += left[i : i+1]
				left = left[:i] + left[i+1:]
			}
		}
		l := letters(s)[:len(s)]
		if got := text(Shuffle(l, picks)); got != shuffled+left {
			t.Fatalf("P27.1: Shuffle of %s by %v: %s, wanted %s", s, picks, got, shuffled+left)
		}
		if got := text(Double(l, picks)); got != doubled {
			t.Fatalf("P27.1: Double of %s by %v: %s, wanted %s", s, picks, got, doubled)
		}
	}
}

// P27.1: of none none, no picks, picks below 0, and beyond.
func TestDouble(t *testing.T) {
	for _, x := range []struct {
		l     string
		picks []int
		want  string
	}{
		{"", nil, ""}, {"", []int{0}, ""}, {"", []int{-1, 5, math.MinInt}, ""},
		{"abc", nil, "abc"}, {"abc", []int{0}, "abca"}, {"abc", []int{2, 2, 0}, "abccca"},
		{"abc", []int{3, 4, 5}, "abcabc"}, {"abc", []int{-1, -2, -3, -4}, "abccbac"},
		{"abc", []int{math.MinInt, math.MaxInt}, "abcbb"}, {"a", []int{math.MinInt, 9, -9}, "aaaa"},
	} {
		if got := text(Double(letters(x.l)[:len(x.l)], x.picks)); got != x.want {
			t.Errorf("P27.1: Double of %s by %v: %s, wanted %s", x.l, x.picks, got, x.want)
		}
	}
	if l := Double(nil, []int{1}); len(l) != 0 {
		t.Errorf("P27.1: Double of none: %v", l)
	}
}

// strange is no command, though it has a Kind, or would have one.
type strange struct{ l []int }

func (strange) Kind() int { panic("it isn't to be asked") }

// P27.1, P1: each kind, Right and not, what Check doesn't let, in their order;
// lists with none of them.
func TestSound(t *testing.T) {
	long := strings.Repeat("x", 4096)
	sound := []command.Command{
		command.Block{Right: true}, command.Block{Bytes: "?", Right: true}, command.Block{Bytes: long, Right: true},
		command.Cert{Right: true}, command.Cert{Bytes: "?", Right: true}, command.Cert{Bytes: long, Right: true},
		command.Clock{}, command.Clock{Epoch: 1}, command.Clock{Epoch: 1 << 30},
	}
	not := []command.Command{
		nil, strange{}, &strange{}, &command.Clock{}, (*command.Block)(nil), &command.Cert{Right: true},
		command.Block{}, command.Block{Bytes: over(1, 0, 1, "a").Bytes()}, command.Block{Bytes: long + "x", Right: true},
		command.Cert{}, command.Cert{Bytes: linked(0, key(), key()).Bytes()}, command.Cert{Bytes: long + "x", Right: true},
		command.Clock{Epoch: -1}, command.Clock{Epoch: 1<<30 + 1}, command.Clock{Epoch: math.MinInt},
		command.Mark{}, command.Mark{Key: "?"}, command.Mark{Key: key()}, command.Unmark{},
	}
	if l := Sound(sound); !slices.Equal(l, sound) {
		t.Errorf("P27.1: of those that are sound: %v", l)
	}
	for _, l := range [][]command.Command{nil, {}, not, not[:1]} {
		if got := Sound(l); len(got) != 0 {
			t.Errorf("P27.1: of those that aren't: %v", got)
		}
	}
	for i, c := range not {
		l := slices.Insert(slices.Clone(sound), i%len(sound), c)
		if got := Sound(l); !slices.Equal(got, sound) {
			t.Errorf("P27.1: with %T: %v", c, got)
		}
	}
	var mixed []command.Command
	for i, c := range not {
		mixed = append(append(mixed, c), sound[:min(i, 1)]...)
	}
	if got := Sound(mixed); len(got) != len(not)-1 {
		t.Errorf("P27.1: between others: %v", got)
	}
}

// P27.1, P1: what is no command goes through Shuffle and Double as any other
// one, and Run refuses it.
func TestStrange(t *testing.T) {
	l := []command.Command{nil, &strange{}, command.Clock{Epoch: 3}, strange{}}
	if m := Shuffle(l, []int{2}); len(m) != 4 || m[0] != l[2] || m[1] != nil || m[2] != l[1] {
		t.Errorf("P27.1: Shuffle: %v", m)
	}
	if m := Double(l, []int{2, 0}); len(m) != 6 || m[4] != l[2] || m[5] != nil {
		t.Errorf("P27.1: Double: %v", m)
	}
	s, refused, e := Run(roomy(), l)
	if e != api.OK || refused != 3 || s.Clock() != 3 {
		t.Errorf("P27.1: Run: %d refused, %d", refused, e)
	}
}

// raw answers names' bytes.
func raw(l ...api.ID) string {
	var s strings.Builder
	for _, id := range l {
		s.WriteString(string(id[:]))
	}
	return s.String()
}

// P27.1: the bytes of a new state, and behind clocks, blocks, certificates, held
// headers and orphans.
func TestSets(t *testing.T) {
	root := header.Root()
	if got, want := Sets(come(t)), "\x00\x01\x01"+raw(root)+"\x00\x00\x00\x01\x010"; got != want {
		t.Errorf("P27.1: a new state: %x, wanted %x", got, want)
	}
	a, b := over(1, 1, 5, "a"), over(1, 2, 1, "b")
	c, held := over(4, 1, 5, "c", a), over(301, 1, 1, "h")
	orphan, other := over(9, 3, 1, "o", over(8, 3, 1, "?")), over(9, 4, 1, "o", over(8, 3, 1, "?"))
	l := []command.Command{
		command.Clock{Epoch: 300}, block(a), block(b), block(c), block(held), block(orphan), block(other),
		link(0, key(), key()), link(2, key(a), key(a)), link(1, key(), key(a)),
	}
	names := []api.ID{root, a.ID(), b.ID(), c.ID()}
	slices.SortFunc(names, func(x, y api.ID) int { return strings.Compare(string(x[:]), string(y[:])) })
	certs := []api.ID{linked(0, key(), key()).ID(), linked(1, key(), key(a)).ID(), linked(2, key(a), key(a)).ID()}
	want := "\x02\x01\x2c" + "\x01\x04" + raw(names...) + "\x01\x03" + raw(certs...) + "\x01\x01" + "\x01\x02" + "\x01\x03768"
	if got := Sets(come(t, l...)); got != want {
		t.Errorf("P27.1: %x, wanted %x", got, want)
	}
	var o codec.Out
	o.Num(300).Num(4).Raw(raw(names...)).Num(3).Raw(raw(certs...)).Num(1).Num(2).Text("768")
	if o.Bytes() != want {
		t.Errorf("P27.1: layer 1: %x", o.Bytes())
	}
}

// P27.1: each thing that Sets tells shows in it, and nothing else does: neither
// which head of a weight leads, nor what is marked, nor what waits.
func TestSetsTells(t *testing.T) {
	a, b := over(1, 1, 5, "a"), over(2, 2, 5, "b")
	base := []command.Command{command.Clock{Epoch: 9}, block(a), block(b)}
	was := Sets(come(t, base...))
	for name, c := range map[string]command.Command{
		"clock": command.Clock{Epoch: 10}, "block": block(over(1, 3, 1, "z")), "head": block(over(3, 3, 1, "c", a)), "held": block(over(99, 1, 1, "h")),
		"orphan": block(over(4, 1, 1, "o", over(3, 1, 1, "?"))), "cert": link(0, key(), key(a)), "the genesis again": link(0, key(), key()),
	} {
		if Sets(come(t, append(slices.Clone(base), c)...)) == was {
			t.Errorf("P27.1: %s doesn't show", name)
		}
	}
	for name, c := range map[string]command.Command{
		"a waiting one": link(5, key(), key(a)), "a mark": command.Mark{Key: key(b)},
	} {
		if Sets(come(t, append(slices.Clone(base), c)...)) != was {
			t.Errorf("P27.1: %s shows", name)
		}
	}
	x, y := block(over(3, 5, 5, "t", a)), block(over(4, 6, 5, "t", a)) // of one weight: who is first leads
	one, two := come(t, append(slices.Clone(base), x, y)...), come(t, append(slices.Clone(base), y, x)...)
	if Sets(one) != Sets(two) || one.Head().Key() == two.Head().Key() {
		t.Errorf("P27.1: heads of one weight")
	}
}

// P27.1: a config that may not be, and its error; commands that are refused, and
// how many.
func TestRun(t *testing.T) {
	for _, x := range []struct {
		c    state.Config
		want api.Errno
	}{
		{state.Config{}, api.ErrArg},
		{state.Config{Delay: 6, Table: []table.Entry{{Miner: 0, Power: 1}}}, api.ErrArg},
		{state.Config{Table: make([]table.Entry, 65)}, api.ErrBig},
	} {
		for _, l := range [][]command.Command{nil, {command.Clock{Epoch: 1}}, {nil}} {
			if s, refused, e := Run(x.c, l); s != nil || refused != 0 || e != x.want {
				t.Errorf("P27.1: Run: %v, %d, %d, wanted %d", s, refused, e, x.want)
			}
			if Converges(x.c, l, l) || Converges(x.c, nil, nil) {
				t.Errorf("P27.1: there is no state, and Converges")
			}
		}
	}
	a := over(1, 1, 5, "a")
	l := []command.Command{
		command.Clock{Epoch: 5}, command.Clock{Epoch: 5}, command.Clock{Epoch: 3}, block(a), block(a), nil,
		command.Block{Bytes: a.Bytes()}, command.Block{Bytes: "?", Right: true}, command.Mark{}, command.Unmark{},
		command.Mark{Key: key(a)}, command.Unmark{}, link(0, key(), key(a)), link(0, key(), key(a)), link(0, key(), key()),
		block(over(9, 1, 1, "h")), block(over(4, 1, 1, "o", over(3, 1, 1, "?"))), link(9, key(), key()),
	}
	want, none := 0, come(t)
	for _, c := range l {
		if none.Apply(c).Code != api.OK {
			want++
		}
	}
	s, refused, e := Run(roomy(), l)
	if e != api.OK || refused != want || want != 10 || Sets(s) != Sets(none) || s.Final().Key() != key(a) || len(s.Holds()) != 1 || len(s.Orphans()) != 1 {
		t.Errorf("P27.1: Run: %d refused, wanted %d; %d", refused, want, e)
	}
	if s, refused, e := Run(roomy(), nil); e != api.OK || refused != 0 || s.Dag().Len() != 1 || s.Clock() != 0 {
		t.Errorf("P27.1: Run of no commands: %d, %d", refused, e)
	}
}

// P27.1, P27.2: two orders, and lists that come to unlike states.
func TestConverges(t *testing.T) {
	a := over(1, 1, 5, "a")
	b := over(2, 2, 5, "b", a)
	l := []command.Command{block(a), block(b), command.Clock{Epoch: 9}, link(0, key(), key(a))}
	m := []command.Command{l[3], l[1], l[2], l[1], nil, l[0], l[0], command.Unmark{}}
	if !Converges(roomy(), l, m) || !Converges(roomy(), m, l) || !Converges(roomy(), nil, nil) || !Converges(roomy(), nil, []command.Command{nil}) {
		t.Errorf("P27.2: two orders")
	}
	for i := range l {
		less := slices.Delete(slices.Clone(l), i, i+1)
		if Converges(roomy(), l, less) || Converges(roomy(), less, m) || !Converges(roomy(), less, less) {
			t.Errorf("P27.1: without the command %d it is the same", i)
		}
	}
}
