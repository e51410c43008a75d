package disk

import (
	"math"
	"math/rand"
	"slices"
	"strconv"
	"strings"
	"testing"
	"unsafe"

	"coxswain/api"
)

// shown is all that a disk tells, its files' bytes by a clone of it where it is
// down.
type shown struct {
	room, used, deeds int
	down              bool
	names             []string
	bytes             []string
	loose             []int
}

// show answers all that a disk tells.
func show(d *Disk) shown {
	x := shown{room: d.Room(), used: d.Used(), deeds: d.Deeds(), names: d.Names()}
	_, e := d.Read("no such file at all")
	x.down = e == api.ErrDown
	up := d.Clone()
	up.Crash(slices.Repeat([]int{math.MaxInt}, len(x.names))...)
	for _, name := range x.names {
		s, _ := up.Read(name)
		x.bytes = append(x.bytes, s)
		x.loose = append(x.loose, d.Loose(name))
	}
	return x
}

// same tells whether disks tell the same.
func same(a, b shown) bool {
	return a.room == b.room && a.used == b.used && a.deeds == b.deeds && a.down == b.down &&
		slices.Equal(a.names, b.names) && slices.Equal(a.bytes, b.bytes) && slices.Equal(a.loose, b.loose)
}

// isOK fails a test if a deed wasn't done.
func isOK(t *testing.T, e api.Errno) {
	t.Helper()
	if e != api.OK {
		t.Fatalf("a deed answered %d", e)
	}
}

// has tells what a file has, and how many of its bytes are loose.
func has(t *testing.T, promise string, d *Disk, name, want string, loose int) {
	t.Helper()
	if s, e := d.Read(name); s != want || e != api.OK || d.Loose(name) != loose {
		t.Errorf("%s: %q has %q (%d), %d of them loose; want %q, %d", promise, name, s, e, d.Loose(name), want, loose)
	}
}

// none tells that there is no such file.
func none(t *testing.T, promise string, d *Disk, name string) {
	t.Helper()
	if s, e := d.Read(name); s != "" || e != api.ErrNone || d.Loose(name) != 0 || slices.Contains(d.Names(), name) {
		t.Errorf("%s: %q has %q (%d), %d of them loose; want none", promise, name, s, e, d.Loose(name))
	}
}

// P9.1: a room counts as the nearest that may be; a new disk has nothing.
func TestNew(t *testing.T) {
	for _, x := range []struct{ room, want int }{
		{math.MinInt, 0}, {-1, 0}, {0, 0}, {1, 1}, {65536, 65536},
		{1<<30 - 1, 1<<30 - 1}, {1 << 30, 1 << 30}, {1<<30 + 1, 1 << 30}, {math.MaxInt, 1 << 30},
	} {
		d := New(x.room)
		if d.Room() != x.want || d.Used() != 0 || len(d.Names()) != 0 || d.Deeds() != 0 {
			t.Errorf("P9.1: a room of %d: %d, %d used, %q, %d deeds", x.room, d.Room(), d.Used(), d.Names(), d.Deeds())
		}
		none(t, "P9.1", d, "")
	}
}

// P9.1: files are made, and grow behind; one of no bytes is one, and stays.
func TestAppend(t *testing.T) {
	d := New(20)
	isOK(t, d.Append("b", "12"))
	isOK(t, d.Append("", "\x00\xff"))
	isOK(t, d.Append("b", "34"))
	isOK(t, d.Append("a\x00", ""))
	isOK(t, d.Append("b", ""))
	has(t, "P9.1", d, "b", "1234", 4)
	has(t, "P9.1", d, "", "\x00\xff", 2)
	has(t, "P9.1", d, "a\x00", "", 0)
	none(t, "P9.1", d, "a")
	if l := d.Names(); !slices.Equal(l, []string{"", "a\x00", "b"}) || d.Used() != 6 || d.Deeds() != 5 {
		t.Errorf("P9.1: %q, %d used, %d deeds", l, d.Used(), d.Deeds())
	}
	isOK(t, d.Sync("a\x00"))
	d.Crash()
	has(t, "P9.1", d, "a\x00", "", 0)
	has(t, "P9.1", d, "b", "", 0)
	if len(d.Names()) != 3 || d.Used() != 0 {
		t.Errorf("P9.1: %q, %d used", d.Names(), d.Used())
	}
}

// P9.1: names rise by their bytes.
func TestNames(t *testing.T) {
	d := New(0)
	want := []string{"", "\x00", "10", "9", "A", "a", "aa", "b", "ä", "\xff", "\xff\x00"}
	for i := range want {
		isOK(t, d.Append(want[(i*7+3)%len(want)], ""))
	}
	for range 20 {
		if l := d.Names(); !slices.Equal(l, want) {
			t.Fatalf("P9.1: %q", l)
		}
	}
}

// P9.1, P9.3: what just fits, and a byte more, over all files together.
func TestRoom(t *testing.T) {
	d := New(8)
	isOK(t, d.Append("a", "123"))
	isOK(t, d.Append("b", "12345"))
	x := show(d)
	if d.Append("a", "4") != api.ErrFull || d.Append("c", "1") != api.ErrFull || !same(show(d), x) {
		t.Errorf("P9.3: a byte more than the room: %v, want %v", show(d), x)
	}
	isOK(t, d.Append("c", ""))
	isOK(t, d.Append("a", ""))
	isOK(t, d.Cut("b", 4))
	if d.Append("a", "45") != api.ErrFull || d.Append("a", "4") != api.OK {
		t.Error("P9.1: room behind a Cut")
	}
	isOK(t, d.Rename("a", "b"))
	if d.Used() != 4 || d.Append("c", "12345") != api.ErrFull || d.Append("c", "1234") != api.OK {
		t.Error("P9.1: room behind a Rename")
	}
	isOK(t, d.Remove("b"))
	if d.Used() != 4 || d.Append("c", "12345") != api.ErrFull || d.Append("c", "5678") != api.OK {
		t.Error("P9.1: room behind a Remove")
	}
	d.Crash(6)
	if d.Used() != 6 || d.Append("d", "123") != api.ErrFull || d.Append("d", "12") != api.OK {
		t.Error("P9.1: room behind a Crash")
	}
	nothing := New(0)
	if nothing.Append("a", "1") != api.ErrFull || nothing.Append("a", "") != api.OK || nothing.Used() != 0 {
		t.Error("P9.1: no room at all")
	}
}

// P9.1: what is synced isn't loose, what comes behind it is.
func TestSync(t *testing.T) {
	d := New(20)
	isOK(t, d.Append("a", "12"))
	isOK(t, d.Append("b", "12"))
	isOK(t, d.Sync("a"))
	has(t, "P9.1", d, "a", "12", 0)
	has(t, "P9.1", d, "b", "12", 2)
	isOK(t, d.Append("a", "345"))
	has(t, "P9.1", d, "a", "12345", 3)
	isOK(t, d.Sync("a"))
	isOK(t, d.Sync("a"))
	if d.Sync("c") != api.ErrNone || d.Sync("") != api.ErrNone {
		t.Error("P9.1: Sync of no file")
	}
	none(t, "P9.1", d, "c")
	if d.Deeds() != 6 {
		t.Errorf("P9.1: %d deeds", d.Deeds())
	}
	d.Crash()
	has(t, "P9.2", d, "a", "12345", 0)
	has(t, "P9.2", d, "b", "", 0)
}

// P9.1, P9.2: of five bytes, three of them synced, the first n stay, loose as
// they were; a crash takes none of the others back.
func TestCut(t *testing.T) {
	for n, x := range []struct {
		want  string
		loose int
		kept  string
	}{{"", 0, ""}, {"1", 0, "1"}, {"12", 0, "12"}, {"123", 0, "123"}, {"1234", 1, "123"}, {"12345", 2, "123"}} {
		d := New(5)
		isOK(t, d.Append("a", "123"))
		isOK(t, d.Sync("a"))
		isOK(t, d.Append("a", "45"))
		isOK(t, d.Cut("a", n))
		has(t, "P9.1", d, "a", x.want, x.loose)
		if d.Deeds() != 4 || d.Used() != n {
			t.Errorf("P9.1: Cut at %d: %d deeds, %d used", n, d.Deeds(), d.Used())
		}
		for choice := range 4 {
			c := d.Clone()
			c.Crash(choice)
			has(t, "P9.2", c, "a", x.want[:len(x.kept)+min(choice, x.loose)], 0)
		}
		isOK(t, d.Append("a", strings.Repeat("x", 5-n)))
		has(t, "P9.1", d, "a", x.want+strings.Repeat("x", 5-n), x.loose+5-n)
		d.Crash()
		has(t, "P9.2", d, "a", x.kept, 0)
	}
}

// P9.1, P9.3: Cut where it may not be.
func TestCutWrong(t *testing.T) {
	d := New(9)
	isOK(t, d.Append("a", "12345"))
	isOK(t, d.Append("empty", ""))
	x := show(d)
	for _, c := range []struct {
		name string
		n    int
		want api.Errno
	}{
		{"a", -1, api.ErrArg}, {"a", math.MinInt, api.ErrArg}, {"a", 6, api.ErrArg}, {"a", math.MaxInt, api.ErrArg},
		{"empty", 1, api.ErrArg}, {"empty", -1, api.ErrArg},
		{"b", 0, api.ErrNone}, {"b", -1, api.ErrNone}, {"b", 1, api.ErrNone},
	} {
		if e := d.Cut(c.name, c.n); e != c.want || !same(show(d), x) {
			t.Errorf("P9.3: Cut %q at %d: %d, want %d; %v", c.name, c.n, e, c.want, show(d))
		}
	}
	isOK(t, d.Cut("empty", 0))
	has(t, "P9.1", d, "empty", "", 0)
}

// P9.1: a file has another name, in place of what had that, or of itself.
func TestRename(t *testing.T) {
	d := New(20)
	isOK(t, d.Append("a", "12"))
	isOK(t, d.Sync("a"))
	isOK(t, d.Append("a", "345"))
	isOK(t, d.Append("b", "xyz"))
	isOK(t, d.Rename("a", "a"))
	has(t, "P9.1", d, "a", "12345", 3)
	isOK(t, d.Rename("a", ""))
	none(t, "P9.1", d, "a")
	has(t, "P9.1", d, "", "12345", 3)
	isOK(t, d.Rename("", "b"))
	none(t, "P9.1", d, "")
	has(t, "P9.1", d, "b", "12345", 3)
	if d.Used() != 5 || d.Deeds() != 7 || len(d.Names()) != 1 {
		t.Errorf("P9.1: %d used, %d deeds, %q", d.Used(), d.Deeds(), d.Names())
	}
	x := show(d)
	if d.Rename("a", "b") != api.ErrNone || d.Rename("a", "a") != api.ErrNone || !same(show(d), x) {
		t.Errorf("P9.3: Rename of no file: %v", show(d))
	}
	d.Crash(1)
	has(t, "P9.2", d, "b", "123", 0)
	if !slices.Equal(d.Names(), []string{"b"}) {
		t.Errorf("P9.2: %q", d.Names())
	}
}

// P9.1, P9.2: a file that was loose in another one's place loses what it had,
// and the name stays renamed, in a crash.
func TestRenameLoose(t *testing.T) {
	d := New(20)
	isOK(t, d.Append("b", "sure"))
	isOK(t, d.Sync("b"))
	isOK(t, d.Append("a", "loose"))
	isOK(t, d.Rename("a", "b"))
	has(t, "P9.1", d, "b", "loose", 5)
	d.Crash()
	has(t, "P9.2", d, "b", "", 0)
	none(t, "P9.2", d, "a")
}

// P9.1: a file that is gone is gone for sure, with all that was loose.
func TestRemove(t *testing.T) {
	d := New(20)
	isOK(t, d.Append("a", "12"))
	isOK(t, d.Sync("a"))
	isOK(t, d.Append("a", "3"))
	isOK(t, d.Append("b", ""))
	isOK(t, d.Remove("a"))
	none(t, "P9.1", d, "a")
	if d.Used() != 0 || d.Deeds() != 5 || d.Remove("a") != api.ErrNone || d.Deeds() != 5 {
		t.Errorf("P9.1: %d used, %d deeds", d.Used(), d.Deeds())
	}
	d.Crash(9, 9)
	none(t, "P9.2", d, "a")
	isOK(t, d.Remove("b"))
	if len(d.Names()) != 0 {
		t.Errorf("P9.1: %q", d.Names())
	}
	isOK(t, d.Append("a", "4"))
	has(t, "P9.1", d, "a", "4", 1)
}

// deeds answers a call of each kind that would be done on a disk that has the
// file a, with a room for more.
func deeds(d *Disk) []func() api.Errno {
	return []func() api.Errno{
		func() api.Errno { return d.Append("a", "9") },
		func() api.Errno { return d.Append("new", "") },
		func() api.Errno { return d.Sync("a") },
		func() api.Errno { return d.Cut("a", 1) },
		func() api.Errno { return d.Rename("a", "a") },
		func() api.Errno { return d.Rename("a", "b") },
		func() api.Errno { return d.Remove("a") },
	}
}

// started answers a disk with the files a and b.
func started(t *testing.T) *Disk {
	t.Helper()
	d := New(9)
	isOK(t, d.Append("a", "12"))
	isOK(t, d.Sync("a"))
	isOK(t, d.Append("a", "34"))
	isOK(t, d.Append("b", "5"))
	return d
}

// P9.1, P9.3: the deed behind n more of them is refused, of whatever kind, and
// the disk is down from that one on; till then it isn't.
func TestHalt(t *testing.T) {
	for n := range 4 {
		for kind := range deeds(nil) {
			d := started(t)
			d.Halt(n)
			for i := range n {
				isOK(t, d.Append("b", strconv.Itoa(i)))
			}
			has(t, "P9.1", d, "a", "1234", 2)
			x := show(d)
			if x.down || x.deeds != 4+n {
				t.Errorf("P9.1: Halt %d is down too soon, or %d deeds", n, x.deeds)
			}
			if e := deeds(d)[kind](); e != api.ErrDown {
				t.Errorf("P9.1: deed %d behind Halt %d: %d", kind, n, e)
			}
			x.down = true
			if !same(show(d), x) {
				t.Errorf("P9.3: deed %d behind Halt %d: %v, want %v", kind, n, show(d), x)
			}
		}
	}
}

// P9.1: a halt below 0 never comes, and takes another one back.
func TestHaltNever(t *testing.T) {
	for _, n := range []int{-1, -2, math.MinInt} {
		d := started(t)
		d.Halt(0)
		d.Halt(n)
		for range 200 {
			isOK(t, d.Append("a", ""))
		}
	}
	d := started(t)
	d.Halt(math.MaxInt)
	isOK(t, d.Sync("a"))
}

// P9.1: the last halt counts; a crash takes it back.
func TestHaltAgain(t *testing.T) {
	d := started(t)
	d.Halt(0)
	d.Halt(2)
	isOK(t, d.Sync("a"))
	d.Halt(1)
	isOK(t, d.Sync("a"))
	if d.Sync("a") != api.ErrDown {
		t.Error("P9.1: the last halt counts")
	}
	d.Halt(5)
	if d.Sync("a") != api.ErrDown {
		t.Error("P9.1: Halt makes no disk be up")
	}
	d.Halt(-1)
	if d.Sync("a") != api.ErrDown {
		t.Error("P9.1: Halt -1 makes no disk be up")
	}
	d.Halt(0)
	d.Crash()
	isOK(t, d.Sync("a"))
	d.Halt(0)
	d.Crash()
	for range 20 {
		isOK(t, d.Sync("a"))
	}
}

// P9.1: what answers an error isn't counted, nor what is no deed; only a deed
// that would be done shows that the disk is down.
func TestHaltBetween(t *testing.T) {
	d := started(t)
	d.Halt(1)
	wrong := func() {
		t.Helper()
		for range 3 {
			if d.Sync("x") != api.ErrNone || d.Cut("x", -1) != api.ErrNone || d.Cut("a", 9) != api.ErrArg ||
				d.Rename("x", "a") != api.ErrNone || d.Remove("x") != api.ErrNone || d.Append("a", "123456") != api.ErrFull {
				t.Error("P9.1: what is wrong comes ahead of a halt")
			}
			has(t, "P9.1", d, "a", "1234", d.Loose("a"))
			d.Clone().Sync("a")
		}
	}
	wrong()
	isOK(t, d.Sync("a"))
	wrong()
	if d.Deeds() != 5 || d.Sync("a") != api.ErrDown || d.Deeds() != 5 {
		t.Errorf("P9.1: %d deeds", d.Deeds())
	}
}

// P9.1, P9.3: being down comes ahead of all that is wrong; what has no error
// still answers.
func TestDown(t *testing.T) {
	d := started(t)
	d.Halt(0)
	if d.Remove("a") != api.ErrDown {
		t.Fatal("P9.1: Halt 0")
	}
	x := show(d)
	for _, e := range []api.Errno{
		d.Append("a", ""), d.Append("x", ""), d.Append("a", "123456"), d.Sync("a"), d.Sync("x"),
		d.Cut("a", 0), d.Cut("a", -1), d.Cut("x", -1), d.Rename("a", "b"), d.Rename("x", "a"), d.Remove("a"), d.Remove("x"),
	} {
		if e != api.ErrDown {
			t.Errorf("P9.1: of a disk that is down: %d", e)
		}
	}
	for _, name := range []string{"a", "x"} {
		if s, e := d.Read(name); s != "" || e != api.ErrDown {
			t.Errorf("P9.1: Read of a disk that is down: %q, %d", s, e)
		}
	}
	if !same(show(d), x) || d.Used() != 5 || d.Deeds() != 4 || d.Loose("a") != 2 || d.Room() != 9 || len(d.Names()) != 2 {
		t.Errorf("P9.3: %v, want %v", show(d), x)
	}
	d.Crash(1, 1)
	has(t, "P9.2", d, "a", "123", 0)
	has(t, "P9.2", d, "b", "5", 0)
	for _, do := range deeds(d)[:5] {
		isOK(t, do())
	}
}

// P9.2: of each file that has loose bytes so many stay as its choice says; a
// file that has none takes no choice.
func TestCrash(t *testing.T) {
	for _, x := range []struct {
		choice []int
		want   [4]string
	}{
		{nil, [4]string{"12", "", "67", ""}},
		{[]int{}, [4]string{"12", "", "67", ""}},
		{[]int{1}, [4]string{"123", "", "67", ""}},
		{[]int{2}, [4]string{"1234", "", "67", ""}},
		{[]int{3}, [4]string{"12345", "", "67", ""}},
		{[]int{4}, [4]string{"12345", "", "67", ""}},
		{[]int{math.MaxInt, math.MaxInt}, [4]string{"12345", "", "67", "89"}},
		{[]int{0, 1}, [4]string{"12", "", "67", "8"}},
		{[]int{-1, 2}, [4]string{"12", "", "67", "89"}},
		{[]int{math.MinInt, -1}, [4]string{"12", "", "67", ""}},
		{[]int{1, 0}, [4]string{"123", "", "67", ""}},
		{[]int{2, 1, 7, 7, 7, 7}, [4]string{"1234", "", "67", "8"}},
	} {
		d := New(20)
		isOK(t, d.Append("d", "89"))
		isOK(t, d.Append("b", ""))
		isOK(t, d.Append("a", "12"))
		isOK(t, d.Append("c", "67"))
		isOK(t, d.Sync("a"))
		isOK(t, d.Sync("c"))
		isOK(t, d.Append("a", "345"))
		d.Crash(x.choice...)
		used := 0
		for i, name := range []string{"a", "b", "c", "d"} {
			has(t, "P9.2", d, name, x.want[i], 0)
			used += len(x.want[i])
		}
		if d.Used() != used || d.Deeds() != 7 || len(d.Names()) != 4 {
			t.Errorf("P9.2: Crash %d: %d used, %d deeds, %q", x.choice, d.Used(), d.Deeds(), d.Names())
		}
		y := show(d)
		d.Crash()
		if !same(show(d), y) {
			t.Errorf("P9.2: what a crash left is loose: %v, want %v", show(d), y)
		}
	}
}

// P9.1: the chapter's example.
func TestExample(t *testing.T) {
	d := New(9)
	isOK(t, d.Append("a", "xy"))
	isOK(t, d.Sync("a"))
	isOK(t, d.Append("a", "z"))
	d.Crash()
	has(t, "P9.2", d, "a", "xy", 0)
}

// stir changes whatever there is of a disk that was started.
func stir(t *testing.T, d *Disk) {
	t.Helper()
	isOK(t, d.Cut("a", 1))
	isOK(t, d.Append("a", "xyz"))
	isOK(t, d.Sync("b"))
	isOK(t, d.Rename("b", "c"))
	isOK(t, d.Remove("c"))
	isOK(t, d.Append("d", ""))
	d.Halt(0)
	if d.Append("q", "") != api.ErrDown {
		t.Error("P9.1: Halt 0")
	}
	d.Crash(1)
}

// P9.1: a clone is just like its disk, and each goes its own way.
func TestClone(t *testing.T) {
	d := started(t)
	x := show(d)
	one, two := d.Clone(), d.Clone()
	if !same(show(one), x) || !same(show(two), x) {
		t.Fatalf("P9.1: clones: %v, %v, want %v", show(one), show(two), x)
	}
	stir(t, one)
	if !same(show(d), x) || !same(show(two), x) || same(show(one), x) {
		t.Errorf("P9.1: what a clone does is its own: %v, %v, want %v", show(d), show(two), x)
	}
	y := show(one)
	stir(t, d)
	if !same(show(two), x) || !same(show(one), y) || !same(show(d), y) {
		t.Errorf("P9.1: what a disk does isn't its clones': %v, want %v", show(two), x)
	}
}

// P9.1: two clones append behind the same bytes.
func TestCloneGrows(t *testing.T) {
	d := New(99)
	isOK(t, d.Append("a", "1"))
	isOK(t, d.Append("a", "2345678")) // leaves spare room behind it
	isOK(t, d.Cut("a", 3))
	c := d.Clone()
	isOK(t, d.Append("a", "d"))
	isOK(t, c.Append("a", "c"))
	has(t, "P9.1", d, "a", "123d", 4)
	has(t, "P9.1", c, "a", "123c", 4)
}

// P9.1: a halt that is under way is the clone's too, and being down is.
func TestCloneHalt(t *testing.T) {
	d := started(t)
	d.Halt(2)
	isOK(t, d.Sync("a"))
	c := d.Clone()
	isOK(t, c.Sync("a"))
	if c.Sync("a") != api.ErrDown {
		t.Error("P9.1: a clone has the halt")
	}
	isOK(t, d.Sync("a"))
	if d.Sync("a") != api.ErrDown {
		t.Error("P9.1: a clone's deeds aren't the disk's")
	}
	c = d.Clone()
	if _, e := c.Read("a"); e != api.ErrDown {
		t.Error("P9.1: a clone of what is down")
	}
	c.Crash()
	if _, e := d.Read("a"); e != api.ErrDown {
		t.Error("P9.1: a clone's crash is its own")
	}
	isOK(t, c.Sync("a"))
}

// P9.1: nothing that is handed in is kept, or changed; answers share nothing.
func TestMemory(t *testing.T) {
	name, text := []byte("name"), []byte("text")
	d := New(99)
	isOK(t, d.Append(unsafe.String(&name[0], 4), unsafe.String(&text[0], 4)))
	copy(name, "xxxx")
	copy(text, "yyyy")
	has(t, "P9.1", d, "name", "text", 4)
	to := []byte("other")
	isOK(t, d.Rename("name", unsafe.String(&to[0], 5)))
	copy(to, "zzzzz")
	has(t, "P9.1", d, "other", "text", 4)
	choice := []int{99, -1, 7, 7}
	d.Crash(choice[:2]...)
	if !slices.Equal(choice, []int{99, -1, 7, 7}) {
		t.Errorf("P9.1: choices are changed: %d", choice)
	}
	l := d.Names()
	l[0] = "else"
	if !slices.Equal(d.Names(), []string{"other"}) {
		t.Errorf("P9.1: names are shared: %q", d.Names())
	}
	s, _ := d.Read("other")
	isOK(t, d.Cut("other", 0))
	isOK(t, d.Append("other", "TEXT"))
	if s != "text" {
		t.Errorf("P9.1: what was read is now %q", s)
	}
}

// plain is a disk as the chapter's words have it: each file's bytes that are
// sure, and those that are loose.
type plain struct {
	room, deeds, left int
	down              bool
	files             map[string][2]string
}

// used answers how many bytes all files have.
func (p *plain) used() int {
	used := 0
	for _, f := range p.files {
		used += len(f[0]) + len(f[1])
	}
	return used
}

// ends answers how a deed ends, of which this is wrong.
func (p *plain) ends(wrong api.Errno) api.Errno {
	if p.down {
		return api.ErrDown
	}
	if wrong == api.OK && p.left == 0 {
		p.down = true
		return api.ErrDown
	}
	if wrong == api.OK {
		p.left--
		p.deeds++
	}
	return wrong
}

// call is a call of a disk, with what it is handed.
type call struct {
	kind    int
	a, b    string
	n       int
	choices []int
}

// play does a call on both, and answers how each ended.
func play(d *Disk, p *plain, c call) (api.Errno, api.Errno) {
	f, there := p.files[c.a]
	wrong := api.OK
	if !there {
		wrong = api.ErrNone
	}
	switch c.kind {
	case 0:
		wrong = api.OK
		if p.used()+len(c.b) > p.room {
			wrong = api.ErrFull
		}
		if wrong = p.ends(wrong); wrong == api.OK {
			p.files[c.a] = [2]string{f[0], f[1] + c.b}
		}
		return d.Append(c.a, c.b), wrong
	case 1:
		if wrong = p.ends(wrong); wrong == api.OK {
			p.files[c.a] = [2]string{f[0] + f[1], ""}
		}
		return d.Sync(c.a), wrong
	case 2:
		if there && (c.n < 0 || c.n > len(f[0])+len(f[1])) {
			wrong = api.ErrArg
		}
		if wrong = p.ends(wrong); wrong == api.OK {
			sure := min(c.n, len(f[0]))
			p.files[c.a] = [2]string{f[0][:sure], f[1][:c.n-sure]}
		}
		return d.Cut(c.a, c.n), wrong
	case 3:
		if wrong = p.ends(wrong); wrong == api.OK {
			delete(p.files, c.a)
			p.files[c.b] = f
		}
		return d.Rename(c.a, c.b), wrong
	case 4:
		if wrong = p.ends(wrong); wrong == api.OK {
			delete(p.files, c.a)
		}
		return d.Remove(c.a), wrong
	case 5:
		p.left = c.n
		d.Halt(c.n)
	default:
		p.crash(c.choices)
		d.Crash(c.choices...)
	}
	return api.OK, api.OK
}

// crash leaves of each file that has loose bytes what the choices say.
func (p *plain) crash(choices []int) {
	i := 0
	for _, name := range []string{"", "a", "b", "cc"} {
		f := p.files[name]
		if f[1] == "" {
			continue
		}
		stay := 0
		if i < len(choices) {
			stay = min(max(choices[i], 0), len(f[1]))
		}
		i++
		p.files[name] = [2]string{f[0] + f[1][:stay], ""}
	}
	p.down, p.left = false, -1
}

// agree tells whether a disk is as the words have it.
func agree(d *Disk, p *plain) bool {
	x := show(d)
	if x.room != p.room || x.used != p.used() || x.deeds != p.deeds || x.down != p.down || len(x.names) != len(p.files) {
		return false
	}
	for i, name := range x.names {
		if f, there := p.files[name]; !there || x.bytes[i] != f[0]+f[1] || x.loose[i] != len(f[1]) {
			return false
		}
	}
	return slices.IsSorted(x.names)
}

// P9.1, P9.2, P9.3: behind any calls a disk is as the chapter's words have it.
func TestAnyCalls(t *testing.T) {
	r := rand.New(rand.NewSource(9))
	names := []string{"", "a", "b", "cc"}
	for range 300 {
		room := r.Intn(40)
		d, p := New(room), &plain{room: room, left: -1, files: map[string][2]string{}}
		for range 80 {
			c := call{kind: r.Intn(5), a: names[r.Intn(4)], b: names[r.Intn(4)], n: r.Intn(12) - 1}
			switch r.Intn(12) {
			case 0:
				c.kind = 5
			case 1:
				c.kind, c.choices = 6, []int{r.Intn(5) - 1, r.Intn(9), r.Intn(3)}[:r.Intn(4)]
			case 2, 3, 4:
				c.kind, c.b = 0, "0123456789"[:r.Intn(11)]
			}
			got, want := play(d, p, c)
			if got != want || !agree(d, p) {
				t.Fatalf("P9.1: %v: %d, want %d; %v, want %v", c, got, want, show(d), p)
			}
		}
	}
}
