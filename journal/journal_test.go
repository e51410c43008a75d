package journal

import (
	"crypto/sha256"
	"math"
	"math/rand"
	"slices"
	"strings"
	"testing"
	"unsafe"

	"coxswain/api"
	"coxswain/disk"
)

// framed answers the frames of records, made with the library's digest.
func framed(l ...string) string {
	var b []byte
	for _, s := range l {
		n, sum := len(s), sha256.Sum256([]byte(s))
		b = append(b, byte(n>>24), byte(n>>16), byte(n>>8), byte(n))
		b = append(b, sum[:4]...)
		b = append(b, s...)
	}
	return string(b)
}

// isOK fails a test if what was done answered an error.
func isOK(t *testing.T, e api.Errno) {
	t.Helper()
	if e != api.OK {
		t.Fatalf("it answered %d", e)
	}
}

// holding answers a disk with these bytes as a file, the first of them synced.
func holding(t *testing.T, name, sure, loose string) *disk.Disk {
	t.Helper()
	d := disk.New(1 << 24)
	isOK(t, d.Append(name, sure))
	isOK(t, d.Sync(name))
	isOK(t, d.Append(name, loose))
	return d
}

// told is all that a disk tells, but whether it is down.
type told struct {
	used, deeds  int
	names, bytes []string
	loose        []int
}

// tell answers what a disk tells, its files' bytes by a clone that is up.
func tell(d *disk.Disk) told {
	x := told{used: d.Used(), deeds: d.Deeds(), names: d.Names()}
	c := d.Clone()
	c.Crash(slices.Repeat([]int{math.MaxInt}, len(x.names))...)
	for _, name := range x.names {
		s, _ := c.Read(name)
		x.bytes = append(x.bytes, s)
		x.loose = append(x.loose, d.Loose(name))
	}
	return x
}

// same tells whether disks tell the same.
func same(a, b told) bool {
	return a.used == b.used && a.deeds == b.deeds && slices.Equal(a.names, b.names) &&
		slices.Equal(a.bytes, b.bytes) && slices.Equal(a.loose, b.loose)
}

// opened answers the journal of a disk, which has to have these records.
func opened(t *testing.T, promise string, d *disk.Disk, want ...string) *Journal {
	t.Helper()
	j, l, e := Open(d)
	if e != api.OK || !slices.Equal(l, want) {
		t.Fatalf("%s: %d records, %d; want %d: %.60q, want %.60q", promise, len(l), e, len(want), l, want)
	}
	return j
}

// file tells that a disk has this one file, none of it loose.
func file(t *testing.T, promise string, d *disk.Disk, want string) {
	t.Helper()
	if s, e := d.Read("log"); s != want || e != api.OK || d.Loose("log") != 0 || len(d.Names()) != 1 {
		t.Errorf("%s: %q: log has %.60q, %d, %d loose; want %.60q", promise, d.Names(), s, e, d.Loose("log"), want)
	}
}

// refused tells that Open answers that error, and nothing else, of a disk that
// it leaves as it is.
func refused(t *testing.T, d *disk.Disk, want api.Errno, what string) {
	t.Helper()
	x := tell(d)
	if j, l, e := Open(d); j != nil || l != nil || e != want || !same(tell(d), x) {
		t.Errorf("P10.1: %s: %v, %q, %d, want %d; %v, want %v", what, j != nil, l, e, want, tell(d), x)
	}
}

// P10.1: where there is no journal, nothing is made till a record is there.
func TestNone(t *testing.T) {
	d := disk.New(100)
	j := opened(t, "P10.1", d)
	if j.Size() != 0 || d.Deeds() != 0 || len(d.Names()) != 0 {
		t.Errorf("P10.1: %d bytes, %d deeds, %q", j.Size(), d.Deeds(), d.Names())
	}
	isOK(t, j.Append("a"))
	file(t, "P10.1", d, framed("a"))
}

// P10.1: a record's frame, in two deeds, synced; the chapter's example.
func TestAppend(t *testing.T) {
	d := disk.New(100)
	j := opened(t, "P10.1", d)
	isOK(t, j.Append("a"))
	file(t, "P10.1", d, "\x00\x00\x00\x01\xca\x97\x81\x12a")
	isOK(t, j.Append(""))
	file(t, "P10.1", d, "\x00\x00\x00\x01\xca\x97\x81\x12a\x00\x00\x00\x00\xe3\xb0\xc4\x42")
	isOK(t, j.Append("\x00\xff\n"))
	file(t, "P10.1", d, framed("a", "", "\x00\xff\n"))
	if d.Deeds() != 6 || j.Size() != 9+8+11 {
		t.Errorf("P10.1: %d deeds, %d bytes", d.Deeds(), j.Size())
	}
	d.Crash()
	opened(t, "P10.2", d, "a", "", "\x00\xff\n")
}

// P10.1, P10.2: records of no bytes, of as many as there may be, and one more.
func TestLengths(t *testing.T) {
	most := strings.Repeat("0123456789abcdef", 1<<16)
	d := disk.New(1 << 23)
	j := opened(t, "P10.1", d)
	isOK(t, j.Append(""))
	isOK(t, j.Append(most))
	isOK(t, j.Append(most[:1<<16+1]))
	x := tell(d)
	if j.Append(most+"x") != api.ErrArg || j.Rewrite("a", most+"x", "b") != api.ErrArg || !same(tell(d), x) {
		t.Error("P10.1: a record of a byte too many")
	}
	d.Crash()
	j = opened(t, "P10.2", d, "", most, most[:1<<16+1])
	isOK(t, j.Rewrite("b", most))
	d.Crash()
	opened(t, "P10.2", d, "b", most)
	file(t, "P10.1", d, framed("b", most))
}

// P10.1: of several errors the least one is told, of which a call changes
// nothing.
func TestErrors(t *testing.T) {
	long := strings.Repeat("x", 1<<20+1)
	d := disk.New(40)
	j := opened(t, "P10.1", d)
	isOK(t, j.Append("abc"))
	x := tell(d)
	for range 3 {
		if j.Append(long) != api.ErrArg || j.Append(strings.Repeat("x", 22)) != api.ErrFull || j.Append(long[1:]) != api.ErrFull {
			t.Error("P10.1: Append: an error")
		}
		if j.Rewrite(long) != api.ErrArg || j.Rewrite("", strings.Repeat("x", 14)) != api.ErrFull || j.Rewrite(strings.Repeat("x", 22)) != api.ErrFull ||
			j.Rewrite("", "", "", "") != api.ErrFull || j.Rewrite(long[1:], long) != api.ErrArg {
			t.Error("P10.1: Rewrite: an error")
		}
		if !same(tell(d), x) || j.Size() != 11 {
			t.Errorf("P10.1: an error changes a disk: %v, want %v", tell(d), x)
		}
		d.Halt(0) // which none of these comes to
	}
	if j.Append("") != api.ErrDown || j.Append(long) != api.ErrArg || j.Rewrite(long) != api.ErrArg || !same(tell(d), x) {
		t.Error("P10.1: of a disk that is down")
	}
	refused(t, d, api.ErrDown, "a disk that is down")
	d.Crash()
	j = opened(t, "P10.2", d, "abc")
	isOK(t, j.Append(strings.Repeat("x", 21)))
	if d.Used() != 40 || j.Append("") != api.ErrFull || j.Rewrite("") != api.ErrFull || j.Rewrite() != api.OK {
		t.Errorf("P10.1: what just fits: %d", d.Used())
	}
}

// P10.1: what just fits beside the journal that is to be replaced, and a byte
// more.
func TestRewriteFits(t *testing.T) {
	for _, x := range []struct {
		room int
		want api.Errno
	}{{11 + 9 + 10, api.OK}, {11 + 9 + 10 - 1, api.ErrFull}, {11 + 9, api.ErrFull}, {11, api.ErrFull}} {
		d := disk.New(x.room)
		j := opened(t, "P10.1", d)
		isOK(t, j.Append("old"))
		if e := j.Rewrite("a", "bc"); e != x.want {
			t.Errorf("P10.1: in a room of %d: %d, want %d", x.room, e, x.want)
		}
		want := []string{"a", "bc"}
		if x.want != api.OK {
			want = []string{"old"}
		}
		file(t, "P10.1", d, framed(want...))
		d.Crash()
		opened(t, "P10.2", d, want...)
	}
}

// P10.1: a log of whole frames and of one that breaks off, anywhere: it is cut
// ahead of that, and none of it is loose, however much was.
func TestBrokenOff(t *testing.T) {
	sure := framed("one", "", "three")
	last := framed("the last one")
	for n := range len(last) {
		for _, from := range []int{0, 5, len(sure) - 1, len(sure), len(sure) + n} {
			all := sure + last[:n]
			d := holding(t, "log", all[:from], all[from:])
			j := opened(t, "P10.1", d, "one", "", "three")
			file(t, "P10.1", d, sure)
			if j.Size() != len(sure) {
				t.Errorf("P10.1: %d bytes", j.Size())
			}
			isOK(t, j.Append("x"))
			d.Crash()
			opened(t, "P10.2", d, "one", "", "three", "x")
		}
	}
}

// P10.1: a first frame that breaks off leaves a file of no bytes; one of no
// bytes stays.
func TestNoFrame(t *testing.T) {
	for _, s := range []string{"", "\x00", "\xff\xff\xff\xff\xff\xff\xff", "\x00\x00\x00\x05\x00\x00\x00\x00abcd"} {
		d := holding(t, "log", s, "")
		j := opened(t, "P10.1", d)
		file(t, "P10.1", d, "")
		if j.Size() != 0 {
			t.Errorf("P10.1: %d bytes", j.Size())
		}
	}
}

// P10.1: a number above 2^20 is bad if it and the sum are there; else it is a
// frame that breaks off. One of 2^20 may be.
func TestNumber(t *testing.T) {
	for _, x := range []string{"\x00\x10\x00\x01", "\x00\x10\x01\x00", "\x00\x11\x00\x00", "\x01\x00\x00\x00", "\x80\x00\x00\x00", "\xff\xff\xff\xff"} {
		for _, ahead := range []string{"", framed("one")} {
			for _, behind := range []string{"", "x", framed("behind it")} {
				refused(t, holding(t, "log", ahead+x+"\xe3\xb0\xc4\x42"+behind, ""), api.ErrBad, "a number beyond")
				refused(t, holding(t, "log", ahead, x+"\xe3\xb0\xc4\x42"+behind), api.ErrBad, "a loose number beyond")
			}
			for n := range 4 {
				d := holding(t, "log", ahead+x+"\xe3\xb0\xc4\x42"[:n], "")
				if _, l, e := Open(d); e != api.OK || len(l) != min(len(ahead), 1) {
					t.Errorf("P10.1: %x, %d bytes of its sum: %q, %d", x, n, l, e)
				}
				file(t, "P10.1", d, ahead)
			}
		}
	}
	d := holding(t, "log", framed("one")+"\x00\x10\x00\x00\xe3\xb0\xc4\x42", "")
	opened(t, "P10.1", d, "one")
	file(t, "P10.1", d, framed("one"))
}

// P10.1: a byte changed in a sum, or in what it is of, is bad in whichever
// frame; all stays as it is, a `new` too.
func TestSum(t *testing.T) {
	s := framed("one", "", "three")
	number := []int{0, 1, 2, 3, 11, 12, 13, 14, 19, 20, 21, 22} // of their bytes: TestNumber
	for i := range len(s) {
		if slices.Contains(number, i) {
			continue
		}
		for _, change := range []byte{1, 0x80, 0xff} {
			b := []byte(s)
			b[i] ^= change
			refused(t, holding(t, "log", string(b), ""), api.ErrBad, "a byte changed")
			d := holding(t, "log", string(b), "\x00\x00")
			isOK(t, d.Append("new", "n"))
			refused(t, d, api.ErrBad, "a byte changed, ahead of what breaks off")
		}
	}
	refused(t, holding(t, "log", "\x00\x00\x00\x01abcdx", ""), api.ErrBad, "a wrong sum")
	refused(t, holding(t, "log", "\x00\x00\x00\x00\x00\x00\x00\x00", ""), api.ErrBad, "a wrong sum of no bytes")
}

// P10.1: what a record says is its own: one may look like frames.
func TestFramesWithin(t *testing.T) {
	d := disk.New(1000)
	j := opened(t, "P10.1", d)
	isOK(t, j.Append(framed("a", "b")))
	isOK(t, j.Append(framed("a")[:5]))
	opened(t, "P10.3", d, framed("a", "b"), framed("a")[:5])
}

// P10.1: a `new` that was left goes, beside a journal or without one; no other
// file does.
func TestNewLeft(t *testing.T) {
	for _, left := range []string{"", "x", framed("of a rewrite"), framed("of a rewrite")[:9], "\xff\xff\xff\xff\xff\xff\xff\xff"} {
		d := disk.New(100)
		isOK(t, d.Append("new", left))
		j := opened(t, "P10.1", d)
		if len(d.Names()) != 0 || j.Size() != 0 {
			t.Errorf("P10.1: %q left", d.Names())
		}
		d = holding(t, "log", framed("one"), "")
		isOK(t, d.Append("new", left))
		isOK(t, d.Append("newer", "mine"))
		deeds := d.Deeds()
		j = opened(t, "P10.1", d, "one")
		if !slices.Equal(d.Names(), []string{"log", "newer"}) || d.Deeds() != deeds+1 || j.Size() != 11 {
			t.Errorf("P10.1: %q, %d deeds", d.Names(), d.Deeds()-deeds)
		}
	}
}

// P10.1, P10.2: loose records are found, and kept from then on.
func TestLooseLog(t *testing.T) {
	all := framed("one", "two")
	for n := range len(all) {
		d := holding(t, "log", all[:n], all[n:])
		deeds := d.Deeds()
		opened(t, "P10.1", d, "one", "two")
		if d.Deeds() != deeds+1 {
			t.Errorf("P10.1: %d deeds", d.Deeds()-deeds)
		}
		d.Crash()
		opened(t, "P10.2", d, "one", "two")
	}
	d := holding(t, "log", framed("one"), "\x00\x00")
	deeds := d.Deeds()
	opened(t, "P10.1", d, "one")
	if d.Deeds() != deeds+1 {
		t.Errorf("P10.1: nothing loose is left behind a cut, and there are %d deeds", d.Deeds()-deeds)
	}
}

// P10.3: opened twice it has the same, and nothing more is done.
func TestTwice(t *testing.T) {
	d := holding(t, "log", framed("one", ""), framed("two", "three")[:20])
	isOK(t, d.Append("new", "n"))
	opened(t, "P10.1", d, "one", "", "two")
	x := tell(d)
	j := opened(t, "P10.3", d, "one", "", "two")
	if !same(tell(d), x) {
		t.Errorf("P10.3: %v, want %v", tell(d), x)
	}
	isOK(t, j.Append("more"))
	opened(t, "P10.3", d, "one", "", "two", "more")
	opened(t, "P10.3", d, "one", "", "two", "more")
}

// P10.1: just these records, and what comes behind them.
func TestRewrite(t *testing.T) {
	d := disk.New(1000)
	j := opened(t, "P10.1", d)
	isOK(t, j.Rewrite())
	file(t, "P10.1", d, "")
	isOK(t, j.Rewrite("a", "", "a"))
	file(t, "P10.1", d, framed("a", "", "a"))
	isOK(t, j.Append("b"))
	file(t, "P10.1", d, framed("a", "", "a", "b"))
	isOK(t, j.Rewrite("c"))
	isOK(t, j.Rewrite("d", "e"))
	if j.Size() != 18 {
		t.Errorf("P10.1: %d bytes", j.Size())
	}
	isOK(t, j.Append("f"))
	d.Crash()
	j = opened(t, "P10.2", d, "d", "e", "f")
	isOK(t, j.Rewrite([]string{}...))
	file(t, "P10.1", d, "")
	if j.Size() != 0 {
		t.Errorf("P10.1: %d bytes", j.Size())
	}
	d.Crash()
	j = opened(t, "P10.2", d)
	isOK(t, j.Append("g"))
	opened(t, "P10.3", d, "g")
}

// breaks does what do says of disks just like d, on which each deed of it is
// the one that is refused, and crashes each at each byte of what is loose. It
// hands what is left to look, with whether do ended well.
func breaks(t *testing.T, d *disk.Disk, do func(d *disk.Disk) api.Errno, look func(d *disk.Disk, done bool)) {
	t.Helper()
	for n := 0; ; n++ {
		c := d.Clone()
		c.Halt(n)
		e := do(c)
		if e != api.OK && e != api.ErrDown {
			t.Fatalf("P10.2: broken off at deed %d: %d", n, e)
		}
		for choice := range loosest(c) + 1 {
			left := c.Clone()
			left.Crash(choice, choice)
			look(left, e == api.OK)
		}
		if e == api.OK {
			return
		}
	}
}

// loosest answers the number of loose bytes of the file that has most of them.
func loosest(d *disk.Disk) int {
	most := 0
	for _, name := range d.Names() {
		most = max(most, d.Loose(name))
	}
	return most
}

// found answers the journal that is left behind a crash, and its records: those
// that were, or those that were to be.
func found(t *testing.T, d *disk.Disk, old, fresh []string) (*Journal, []string) {
	t.Helper()
	j, l, e := Open(d)
	if e != api.OK || !slices.Equal(l, old) && !slices.Equal(l, fresh) {
		t.Fatalf("P10.2: %q, %d; want %q or %q", l, e, old, fresh)
	}
	return j, l
}

// either tells that a disk that was left behind a crash has the records as they
// were, or as they were to be; just these, if the call ended well. However
// often Open is broken off, it finds the same.
func either(t *testing.T, d *disk.Disk, done bool, old, fresh []string) {
	t.Helper()
	if done {
		old = fresh
	}
	_, now := found(t, d.Clone(), old, fresh)
	breaks(t, d, open, func(d *disk.Disk, _ bool) { again(t, d, now) })
}

// open opens the journal of a disk.
func open(d *disk.Disk) api.Errno {
	_, _, e := Open(d)
	return e
}

// again tells that a disk has these records, and takes one more.
func again(t *testing.T, d *disk.Disk, want []string) {
	t.Helper()
	j := opened(t, "P10.2", d, want...)
	isOK(t, j.Append("more"))
	d.Crash()
	opened(t, "P10.2", d, append(slices.Clone(want), "more")...)
}

// P10.2: a crash at each deed of Append, at each byte: the record is found, or
// not at all.
func TestAppendBroken(t *testing.T) {
	for _, old := range [][]string{nil, {""}, {"one", "two"}} {
		for _, s := range []string{"", "x", "a record", framed("a frame")} {
			d := disk.New(1000)
			j := opened(t, "P10.1", d)
			for _, record := range old {
				isOK(t, j.Append(record))
			}
			fresh := append(slices.Clone(old), s)
			add := func(d *disk.Disk) api.Errno { return opened(t, "P10.3", d, old...).Append(s) }
			breaks(t, d, add, func(d *disk.Disk, done bool) { either(t, d, done, old, fresh) })
		}
	}
}

// P10.2: a crash at each deed of Rewrite, at each byte: what was, or what was
// to be.
func TestRewriteBroken(t *testing.T) {
	for _, old := range [][]string{nil, {"one", "two"}} {
		for _, fresh := range [][]string{nil, {""}, {"x"}, {"several", "", "of them"}} {
			d := disk.New(1000)
			j := opened(t, "P10.1", d)
			for _, record := range old {
				isOK(t, j.Append(record))
			}
			renew := func(d *disk.Disk) api.Errno { return opened(t, "P10.3", d, old...).Rewrite(fresh...) }
			breaks(t, d, renew, func(d *disk.Disk, done bool) { either(t, d, done, old, fresh) })
		}
	}
}

// P10.2: a crash at each deed of Open: the same is found by the next one, with
// a `new`, with what breaks off, and with loose bytes.
func TestOpenBroken(t *testing.T) {
	last := framed("three")
	for n := range len(last) + 1 {
		d := holding(t, "log", framed("one", "two"), last[:n])
		isOK(t, d.Append("new", "rest"))
		old := []string{"one", "two"}
		fresh := old
		if n == len(last) {
			fresh = []string{"one", "two", "three"}
		}
		breaks(t, d, open, func(d *disk.Disk, done bool) { either(t, d, done, old, fresh) })
	}
}

// P10.1: an Open that is broken off answers the disk's error alone.
func TestOpenDown(t *testing.T) {
	d := holding(t, "log", framed("one")+"torn", framed("two"))
	isOK(t, d.Cut("log", 13))
	isOK(t, d.Append("log", "x")) // the frame breaks off, with a byte that is loose
	isOK(t, d.Append("new", "n"))
	for n := range 2 {
		c := d.Clone()
		c.Halt(n)
		if j, l, e := Open(c); j != nil || l != nil || e != api.ErrDown {
			t.Errorf("P10.1: broken off at deed %d: %q, %d", n, l, e)
		}
	}
	c := holding(t, "log", "", framed("one"))
	c.Halt(0)
	if j, l, e := Open(c); j != nil || l != nil || e != api.ErrDown {
		t.Errorf("P10.1: broken off at Sync: %q, %d", l, e)
	}
	c = disk.New(9)
	c.Halt(0)
	j := opened(t, "P10.1", c) // it does no deed
	if j.Append("") != api.ErrDown {
		t.Error("P10.1: Append on a disk that was to be down")
	}
}

// P10.1: how many bytes there are, also of a disk that is down.
func TestSize(t *testing.T) {
	d := disk.New(100)
	isOK(t, d.Append("a", "another file"))
	isOK(t, d.Append("z", "another file"))
	j := opened(t, "P10.1", d)
	if j.Size() != 0 {
		t.Errorf("P10.1: without a log: %d", j.Size())
	}
	d.Halt(3)
	isOK(t, j.Append("abc"))
	if j.Size() != 11 || j.Append("de") != api.ErrDown || j.Size() != 21 {
		t.Errorf("P10.1: with a record that isn't synced: %d", j.Size())
	}
	x := tell(d)
	if j.Size() != 21 || !same(tell(d), x) || j.Append("") != api.ErrDown {
		t.Error("P10.1: Size changes a disk")
	}
	d.Crash(0, 7, 0)
	if opened(t, "P10.2", d, "abc").Size() != 11 {
		t.Error("P10.1: behind a crash")
	}
	none := disk.New(9)
	j = opened(t, "P10.1", none)
	none.Halt(0)
	if j.Append("") != api.ErrDown || j.Size() != 0 {
		t.Errorf("P10.1: without a log, of a disk that is down: %d", j.Size())
	}
}

// P10.1: how many bytes a frame has.
func TestCost(t *testing.T) {
	for _, x := range []struct{ n, want int }{
		{math.MinInt, 8}, {-1, 8}, {0, 8}, {1, 9}, {255, 263}, {1 << 20, 1<<20 + 8}, {1<<20 + 1, 1<<20 + 9},
	} {
		if n := Cost(x.n); n != x.want {
			t.Errorf("P10.1: Cost of %d: %d, want %d", x.n, n, x.want)
		}
	}
}

// P10.1: what is handed in is neither kept nor changed; answers share nothing.
func TestMemory(t *testing.T) {
	d := disk.New(1000)
	j := opened(t, "P10.1", d)
	b := []byte("abc")
	isOK(t, j.Append(unsafe.String(&b[0], 3)))
	copy(b, "xyz")
	_, one, _ := Open(d)
	_, two, _ := Open(d)
	if one[0] != "abc" || unsafe.StringData(one[0]) == unsafe.StringData(two[0]) {
		t.Errorf("P10.1: what was handed in is kept, or what is answered: %q", one)
	}
	wide := strings.Repeat("w", 100)
	isOK(t, j.Rewrite(wide, wide))
	_, one, _ = Open(d)
	from, to := uintptr(unsafe.Pointer(unsafe.StringData(one[0]))), uintptr(unsafe.Pointer(unsafe.StringData(one[1])))
	if to-from == uintptr(Cost(100)) {
		t.Error("P10.1: records stand in the same bytes")
	}
	l := []string{"b", "a", "left"}
	isOK(t, j.Rewrite(l[:2]...))
	if !slices.Equal(l, []string{"b", "a", "left"}) {
		t.Errorf("P10.1: what was handed in is changed: %q", l)
	}
	l[0] = "c"
	opened(t, "P10.1", d, "b", "a")
}

// P10.2, P10.3: of any calls, with crashes anywhere, what was answered with OK
// is found, and what was broken off wholly, or not at all.
func TestAnyCalls(t *testing.T) {
	r := rand.New(rand.NewSource(10))
	texts := []string{"", "a", "some bytes", "\x00\x00\x00\x01", framed("a frame"), strings.Repeat("long ", 30)}
	for range 200 {
		d := disk.New(300 + r.Intn(400))
		j := opened(t, "P10.1", d)
		var is []string
		for range 40 {
			if r.Intn(5) == 0 {
				d.Halt(r.Intn(4))
			}
			to := append(slices.Clone(is), texts[r.Intn(len(texts))])
			do := func() api.Errno { return j.Append(to[len(to)-1]) }
			if r.Intn(4) == 0 {
				to = to[r.Intn(len(to)):]
				do = func() api.Errno { return j.Rewrite(to...) }
			}
			x := tell(d)
			switch e := do(); {
			case e == api.OK:
				is = to
			case e == api.ErrFull && !same(tell(d), x):
				t.Fatalf("P10.1: ErrFull: %v, want %v", tell(d), x)
			case e == api.ErrDown:
				d.Crash(r.Intn(60), r.Intn(60))
				j, is = found(t, d, is, to)
			case e != api.ErrFull:
				t.Fatalf("P10.1: %d", e)
			}
		}
		d.Crash()
		opened(t, "P10.2", d, is...)
	}
}
