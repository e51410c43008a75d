package script

import (
	"fmt"
	"math/rand"
	"slices"
	"strconv"
	"strings"
	"testing"

	"coxswain/api"
	"coxswain/cert"
	"coxswain/command"
	"coxswain/digest"
	"coxswain/disk"
	"coxswain/engine"
	"coxswain/feed"
	"coxswain/header"
	"coxswain/snap"
	"coxswain/state"
	"coxswain/table"
)

// plain is what a world is to be like, told by lines: layers 9 and 24, called
// word by word, and the headers that names are of.
type plain struct {
	d     *disk.Disk
	e     *engine.Engine
	names map[string]header.Header
}

// plainConfig is the config of each world.
var plainConfig = state.Config{Delay: 1, Orphans: 8, Holds: 8, Waits: 8, Cache: 32, Table: []table.Entry{{Miner: 0, Power: 1}, {Miner: 1, Power: 1}, {Miner: 2, Power: 1}, {Miner: 3, Power: 1}}}

func newPlain() *plain {
	return &plain{d: disk.New(65536), names: map[string]header.Header{"root": header.Genesis()}}
}

// nums answers the numbers of a list, or one number.
func nums(s string) []int {
	var l []int
	for _, x := range strings.Split(s, ",") {
		if n, err := strconv.Atoi(x); err == nil {
			l = append(l, n)
		}
	}
	return l
}

// headers answers those of a list of names.
func (p *plain) headers(s string) ([]header.Header, bool) {
	var l []header.Header
	for _, name := range strings.Split(s, ",") {
		h, there := p.names[name]
		if there {
			l = append(l, h)
		} else if s != "-" {
			return nil, false
		}
	}
	return l, true
}

// told answers what is told by a line, and the command that it is (nil: it is
// none, or one that isn't asked for).
func (p *plain) told(line string) (string, command.Command) {
	f := strings.Fields(line)
	errno := func(e api.Errno) string {
		if e != api.OK {
			return fmt.Sprintf("code %d", e)
		}
		return "ok"
	}
	switch f[0] {
	case "disk":
		p.d, p.e = disk.New(nums(f[1])[0]), nil
		return "ok", nil
	case "open":
		e, wrong := engine.Open(p.d, plainConfig)
		if wrong == api.OK {
			p.e = e
		}
		return errno(wrong), nil
	case "halt":
		p.d.Halt(nums(f[1])[0])
		return "ok", nil
	case "crash":
		p.d.Crash(nums(f[1])...)
		p.e = nil
		return "ok", nil
	}
	if p.e == nil {
		return "closed", nil
	}
	switch f[0] {
	case "compact":
		return errno(p.e.Compact()), nil
	case "leave":
		return errno(p.e.Hub().Leave(nums(f[1])[0])), nil
	case "join":
		id, e := p.e.Join(nums(f[1])[0])
		if e != api.OK {
			return errno(e), nil
		}
		return fmt.Sprint(id), nil
	case "take":
		return p.events(nums(f[1])[0], nums(f[2])[0]), nil
	case "head":
		return p.head(), nil
	case "look":
		s := p.e.State().Parts()
		return fmt.Sprint(s.Clock, 1+len(s.Blocks), len(s.Orphans), len(s.Holds), len(s.Certs), len(s.Waiting), p.e.Size()), nil
	}
	c, e := p.command(f)
	if e != api.OK {
		return errno(e), nil
	}
	r := p.e.Do(c)
	if r.Code != api.OK {
		return errno(r.Code), c
	}
	return strings.Split(" in orphan held gone accepted waits set", " ")[r.Status] + map[bool]string{true: " moved"}[r.Moved], c
}

// command answers that of a line.
func (p *plain) command(f []string) (command.Command, api.Errno) {
	switch f[0] {
	case "clock":
		return command.Clock{Epoch: nums(f[1])[0]}, api.OK
	case "unmark":
		return command.Unmark{}, api.OK
	case "raw":
		var s []byte
		fmt.Sscanf(f[1], "%x", &s)
		return command.Parse(string(s))
	}
	l, there := p.headers(f[len(f)-1])
	if f[0] == "cert" {
		l, there = p.headers(f[1])
	}
	if !there {
		return nil, api.ErrNone
	}
	ids := []api.ID{}
	for _, h := range l {
		ids = append(ids, h.ID())
	}
	key := header.Key(ids...)
	switch f[0] {
	case "mark":
		return command.Mark{Key: key}, api.OK
	case "cert":
		c := cert.Cert{Instance: len(p.e.State().Parts().Certs), Base: p.e.State().Final().Key(), Final: key, Signers: nums(f[2])}
		return command.Cert{Bytes: c.Bytes(), Right: true}, api.OK
	case "wrong":
		return command.Block{Bytes: l[0].Bytes()}, api.OK
	case "again":
		return command.Block{Bytes: l[0].Bytes(), Right: true}, api.OK
	}
	h := header.Header{Height: nums(f[2])[0], Miner: nums(f[3])[0], Ticket: f[4], Wins: nums(f[5])[0], Power: uint64(nums(f[6])[0]), Salt: nums(f[7])[0]}
	for i := range len(key) / 32 {
		h.Parents = append(h.Parents, api.ID([]byte(key[32*i:][:32])))
	}
	if f[1] != "root" {
		p.names[f[1]] = h
	}
	return command.Block{Bytes: h.Bytes(), Right: true}, api.OK
}

// events answers those of a feed.
func (p *plain) events(id, n int) string {
	f, there := p.e.Hub().Feed(id)
	if !there {
		return "code 7"
	}
	words := ""
	for _, x := range f.Take(n) {
		words += fmt.Sprint(" ", map[int]string{feed.Revert: "-", feed.Apply: "+", feed.Lagged: "!"}[x.Kind], x.Height)
	}
	if words == "" {
		return "."
	}
	return words[1:]
}

// head answers the head.
func (p *plain) head() string {
	t := p.e.State().Head()
	words := []string{fmt.Sprint(t.Height()), p.e.State().Paths().Weight(t).Text()}
	for _, b := range t.Blocks() {
		var names []string
		for name, h := range p.names {
			if h.ID() == b.ID {
				names = append(names, name)
			}
		}
		slices.Sort(names)
		words = append(words, append(names, digest.Short(b.ID))[0])
	}
	return strings.Join(words, " ")
}

// source is where any lines come from; it keeps what it says of blocks.
type source struct {
	r     *rand.Rand
	clock int
	names []string
	block map[string][4]string // height, power, parents, miner
}

func newSource(seed int64) *source {
	return &source{r: rand.New(rand.NewSource(seed)), names: []string{"root"}, block: map[string][4]string{"root": {"0", "2", "-", "0"}}}
}

// one answers one of these.
func (x *source) one(l ...string) string { return l[x.r.Intn(len(l))] }

// name answers some name, mostly one that there is.
func (x *source) name() string {
	if x.r.Intn(30) == 0 {
		return "nobody"
	}
	return x.names[len(x.names)-1-x.r.Intn(min(len(x.names), 9))]
}

// list answers names, mostly of blocks that may stand beside one another.
func (x *source) list() string {
	first := x.name()
	l := []string{first}
	for _, name := range x.names {
		a, b := x.block[first], x.block[name]
		if len(l) < 4 && a[0] == b[0] && a[1] == b[1] && a[2] == b[2] && (a[3] != b[3] || x.r.Intn(20) == 0) && x.r.Intn(2) == 0 {
			l = append(l, name)
		}
	}
	switch x.r.Intn(40) {
	case 0:
		return "-"
	case 1:
		l = append(l, x.name())
	}
	x.r.Shuffle(len(l), func(i, j int) { l[i], l[j] = l[j], l[i] })
	return strings.Join(l, ",")
}

// header answers the line of a new header, which mostly may come in.
func (x *source) header() string {
	parents := x.list()
	height := 1 + x.r.Intn(20)/15 - x.r.Intn(30)/29
	first, _, _ := strings.Cut(parents, ",")
	if b, there := x.block[first]; there {
		height += nums(b[0])[0]
	}
	name := fmt.Sprintf("n%d", len(x.names))
	if x.r.Intn(15) == 0 {
		name = x.name()
	}
	b := [4]string{fmt.Sprint(max(height, 0)), x.one("2", "2", "2", "9"), parents, fmt.Sprint(x.r.Intn(8))}
	if name != "root" && name != "nobody" {
		x.names, x.block[name] = append(x.names, name), b
	}
	return fmt.Sprintf("block %s %s %s %s %d %s %d %s", name, b[0], b[3], x.one("a", "b", "c"), 1+x.r.Intn(16), b[1], x.r.Intn(2), parents)
}

// line answers some line.
func (x *source) line() string {
	switch n := x.r.Intn(100); {
	case n < 34:
		return x.header()
	case n < 40:
		return x.one("again ", "again ", "wrong ") + x.name()
	case n < 50:
		x.clock += x.r.Intn(4)
		return fmt.Sprint("clock ", max(0, x.clock-x.r.Intn(2)))
	case n < 56:
		return "cert " + x.list() + " " + x.one("0,1,2", "0,1,2,3", "1,2,3", "0,1", "1,0,2", "-", "0,1,2,9")
	case n < 60:
		return "mark " + x.list()
	case n < 62:
		return "unmark"
	case n < 65:
		return "raw " + x.one("-", "0103", fmt.Sprintf("010301%02x", x.clock%200), "0106", "01030101ff", "0105", "02ff", "0101010100")
	case n < 68:
		return "compact"
	case n < 72:
		return fmt.Sprint("join ", x.r.Intn(9))
	case n < 80:
		return fmt.Sprint("take ", x.r.Intn(7), " ", x.r.Intn(9))
	case n < 81:
		return fmt.Sprint("leave ", x.r.Intn(5))
	case n < 86:
		return "head"
	case n < 90:
		return "look"
	case n < 93:
		return fmt.Sprint("halt ", x.r.Intn(9))
	case n < 94:
		return fmt.Sprint("crash ", x.one("-", "0", "99", "1,2", fmt.Sprint(x.r.Intn(70))))
	case n < 95 && x.r.Intn(3) == 0:
		return "disk " + x.one("0", "60", "400", "2000", "65536", "1099511627776")
	case n < 96:
		return "# " + x.one("note", "")
	}
	return "open"
}

// text answers a script of n lines, which begins by open.
func (x *source) text(n int) []string {
	l := []string{"open"}
	for range n {
		l = append(l, x.line())
	}
	return l
}

// story is the states that are to be: of the commands that were answered, and of
// these with the one that was broken off (nil: none was); whether something was,
// and how often what was broken off was there, or not.
type story struct {
	s, broken *state.State
	down      bool
	brought   map[bool]int
}

func newStory(t *testing.T) *story { return &story{s: fresh(t), brought: map[bool]int{}} }

// fresh answers the state of no commands.
func fresh(t *testing.T) *state.State {
	t.Helper()
	s, e := state.New(plainConfig)
	if e != api.OK {
		t.Fatalf("New: %d", e)
	}
	return s
}

// hear takes in what was told by a line, of a command that may be nil, and tells
// of a world whose state is another one.
func (y *story) hear(t *testing.T, at string, w *World, line, told string, c command.Command) {
	t.Helper()
	if strings.HasPrefix(line, "disk ") {
		y.s, y.broken, y.down = fresh(t), nil, false
	}
	if c != nil && told != "code 5" && told != "code 6" {
		y.s = y.s.Clone()
		y.s.Apply(c)
	}
	if line != "open" && told == "code 6" && !y.down {
		y.down = true
		if c != nil {
			y.broken = y.s.Clone()
			y.broken.Apply(c)
		}
	}
	if w.Engine() == nil {
		return
	}
	now := w.Engine().State()
	if line == "open" && told == "ok" {
		if y.broken != nil {
			there := snap.Same(now, y.broken)
			y.brought[there]++
			if there {
				y.s = y.broken
			}
		}
		y.broken, y.down = nil, false
	}
	if !snap.Same(now, y.s) {
		t.Fatalf("P28.2: %s: the state isn't that of the commands", at)
	}
}

// P28.1, P28.2, P1, P4, P7: any lines, one by one, against layers 9 and 24; and
// whenever it is open the state is that of the commands that were answered, or
// with the one that was broken off.
func TestAny(t *testing.T) {
	seen := map[string]int{}
	for seed := range int64(300) {
		w, p, y := New(), newPlain(), newStory(t)
		for i, x := range newSource(seed).text(120) {
			got, at := w.Run(x), fmt.Sprintf("seed %d, line %d, %s", seed, i, x)
			if strings.HasPrefix(x, "#") {
				if got != "" {
					t.Fatalf("P28.1: %s: %q", at, got)
				}
				continue
			}
			want, c := p.told(x)
			if got != want+"\n" {
				t.Fatalf("P28.1: %s: %q, wanted %q", at, got, want)
			}
			if (w.Engine() == nil) != (p.e == nil) || p.e != nil && (!snap.Same(w.Engine().State(), p.e.State()) || w.Engine().Size() != p.e.Size()) {
				t.Fatalf("P28.1: %s: what is open is another one", at)
			}
			y.hear(t, at, w, x, want, c)
			word, _, _ := strings.Cut(x, " ")
			seen[word]++
			seen[want]++
		}
	}
	for _, word := range []string{
		"disk", "open", "halt", "crash", "block", "again", "wrong", "cert", "clock", "mark", "unmark", "raw", "compact", "join", "take", "leave", "head", "look",
		"closed", "in", "in moved", "orphan", "held", "accepted", "accepted moved", "waits", "set", "set moved", ".",
		"code 1", "code 2", "code 3", "code 5", "code 6", "code 7", "code 8", "code 9", "code 10", "code 11", "code 14", "code 15", "code 16", "code 17", "code 18",
	} {
		if seen[word] < 3 {
			t.Errorf("%s comes %d times", word, seen[word])
		}
	}
}

// P28.1: a script in two parts, wherever it is cut, and line by line, tells the
// same as at once.
func TestParts(t *testing.T) {
	for seed := range int64(40) {
		l := newSource(1000 + seed).text(60)
		want := New().Run(strings.Join(l, "\n"))
		for i := range l {
			w := New()
			if got := w.Run(strings.Join(l[:i], "\n")) + w.Run(strings.Join(l[i:], "\n")); got != want {
				t.Fatalf("P28.1: seed %d, cut at %d: %q, wanted %q", seed, i, got, want)
			}
		}
		w, got := New(), ""
		for _, x := range l {
			got += w.Run(x + "\n")
		}
		if got != want {
			t.Fatalf("P28.1: seed %d, line by line: %q, wanted %q", seed, got, want)
		}
	}
}

// crashLines do all that commands may do, with what makes the log anew between.
var crashLines = []string{
	"clock 3", "block a 1 0 t 5 2 0 root", "block b 1 1 s 5 2 0 root", "compact", "block c 2 0 t 1 2 0 a", "cert a,b 0,1,2", "mark root", "block d 9 1 t 1 2 0 c",
	"unmark", "compact", "block x 3 1 t 1 2 0 d", "clock 20",
}

// P28.2, P4: a halt at each deed of a script, and a crash at each byte of what is
// loose then, also where what is opened behind that is halted: the state is that
// of the commands that were answered, or with the one that was broken off; all
// others are done behind it.
func TestCrash(t *testing.T) {
	y := newStory(t)
	for n := 0; ; n++ {
		for k, loose := 0, 0; k <= loose; k++ {
			w, p := New(), newPlain()
			y.s, y.broken, y.down = fresh(t), nil, false
			do := func(x string) string {
				want, c := p.told(x)
				if got := w.Run(x); got != want+"\n" {
					t.Fatalf("P28.1: halt %d, crash %d, %s: %q, wanted %q", n, k, x, got, want)
				}
				y.hear(t, fmt.Sprintf("halt %d, crash %d, %s", n, k, x), w, x, want, c)
				return want
			}
			do(fmt.Sprint("halt ", n))
			do("open")
			down := slices.IndexFunc(crashLines, func(x string) bool { return do(x) == "code 6" })
			if down < 0 {
				if n != 26 || y.brought[true] == 0 || y.brought[false] == 0 {
					t.Errorf("P28.2: %d deeds; what was broken off was there, or not: %v", n, y.brought)
				}
				return
			}
			loose = p.d.Loose("log") + p.d.Loose("new")
			do(fmt.Sprintf("crash %d,%d", k, k))
			do("halt 0")
			if do("open") == "code 6" { // what is no whole frame is to be cut, or new to be removed
				do("head")
				do("crash -")
				do("open")
			}
			do("crash -")
			do("open")
			for _, x := range crashLines[down:] {
				do(x)
			}
		}
	}
}
