package codec

import (
	"math"
	"strings"
	"testing"

	"coxswain/api"
)

const most = math.MaxInt

// numbers: each number of the chapter's edges, and its bytes.
var numbers = []struct {
	x     int
	bytes string
}{
	{0, "\x00"},
	{1, "\x01\x01"},
	{255, "\x01\xff"},
	{256, "\x02\x01\x00"},
	{258, "\x02\x01\x02"},
	{1<<16 - 1, "\x02\xff\xff"},
	{1 << 16, "\x03\x01\x00\x00"},
	{1 << 24, "\x04\x01\x00\x00\x00"},
	{1<<32 - 1, "\x04\xff\xff\xff\xff"},
	{1 << 32, "\x05\x01\x00\x00\x00\x00"},
	{1<<56 - 1, "\x07\xff\xff\xff\xff\xff\xff\xff"},
	{1 << 56, "\x08\x01\x00\x00\x00\x00\x00\x00\x00"},
	{1<<63 - 1, "\x08\x7f\xff\xff\xff\xff\xff\xff\xff"},
}

// wrongNumbers: bytes that are no number of at most most, and the first error.
var wrongNumbers = []struct {
	name  string
	bytes string
	most  int
	err   api.Errno
}{
	{"no bytes", "", most, api.ErrEnd},
	{"no byte behind the first one", "\x01", most, api.ErrEnd},
	{"one byte of two", "\x02\x01", most, api.ErrEnd},
	{"seven bytes of eight", "\x08\x01\x00\x00\x00\x00\x00\x00", most, api.ErrEnd},
	{"too great, but bytes are wanting", "\x08\xff\xff\xff\xff\xff\xff\xff", most, api.ErrEnd},
	{"bytes are wanting, of any number above most", "\x02\x01", 0, api.ErrEnd},
	{"second byte 0", "\x01\x00", most, api.ErrForm},
	{"second byte 0, more behind it", "\x02\x00\x01", most, api.ErrForm},
	{"second byte 0, the others wanting", "\x08\x00", most, api.ErrForm},
	{"first byte 9, alone", "\x09", most, api.ErrForm},
	{"first byte 9", "\x09\x01\x01\x01\x01\x01\x01\x01\x01\x01", most, api.ErrForm},
	{"first byte 255", "\xff", most, api.ErrForm},
	{"2^63", "\x08\x80\x00\x00\x00\x00\x00\x00\x00", most, api.ErrForm},
	{"2^64 - 1", "\x08\xff\xff\xff\xff\xff\xff\xff\xff", most, api.ErrForm},
	{"2^63, also above most", "\x08\x80\x00\x00\x00\x00\x00\x00\x00", 5, api.ErrForm},
	{"just above most", "\x01\x65", 100, api.ErrBig},
	{"1 of at most 0", "\x01\x01", 0, api.ErrBig},
	{"2^63 - 1 of at most one less", "\x08\x7f\xff\xff\xff\xff\xff\xff\xff", most - 1, api.ErrBig},
	{"0 of a most below 0", "\x00", -1, api.ErrBig},
	{"0 of the least most", "\x00", math.MinInt, api.ErrBig},
}

// failed tells whether an In is as it should be behind a first error e.
func failed(t *testing.T, name string, in *In, e api.Errno) {
	t.Helper()
	if in.Err() != e || in.End() != e || in.Left() != 0 {
		t.Errorf("P1.1: %s: Err %d, End %d, Left %d; want %d, %d, 0", name, in.Err(), in.End(), in.Left(), e, e)
	}
	if x := in.Num(most); x != 0 {
		t.Errorf("P1.1: %s: behind the error Num is %d", name, x)
	}
	if s := in.Text(most); s != "" {
		t.Errorf("P1.1: %s: behind the error Text is %q", name, s)
	}
	if s := in.Raw(0) + in.Raw(1); s != "" {
		t.Errorf("P1.1: %s: behind the error Raw is %q", name, s)
	}
	if n := in.Count(most); n != 0 {
		t.Errorf("P1.1: %s: behind the error Count is %d", name, n)
	}
	in.Fail(e + 1)
	in.Fail(api.OK)
	if in.Err() != e || in.End() != e || in.Left() != 0 {
		t.Errorf("P1.1: %s: later calls changed the first error to %d, Left to %d", name, in.Err(), in.Left())
	}
}

// P1.1: numbers are written as the chapter says.
func TestOutNum(t *testing.T) {
	for _, c := range numbers {
		var o Out
		if s := o.Num(c.x).Bytes(); s != c.bytes {
			t.Errorf("P1.1: %d: %x, want %x", c.x, s, c.bytes)
		}
	}
	for _, x := range []int{-1, -256, math.MinInt} {
		var o Out
		if s := o.Num(x).Bytes(); s != "\x00" {
			t.Errorf("P1.1: %d: %x, want 00", x, s)
		}
	}
}

// P1.1: texts and bytes are written as the chapter says.
func TestOutTexts(t *testing.T) {
	long := strings.Repeat("x", 300)
	for s, want := range map[string]string{"": "\x00", "ab": "\x01\x02ab", "\x00": "\x01\x01\x00", "\xff\xfe": "\x01\x02\xff\xfe", long: "\x02\x01\x2c" + long} {
		var text, raw Out
		if b := text.Text(s).Bytes(); b != want {
			t.Errorf("P1.1: Text %q: %x, want %x", s, b, want)
		}
		if b := raw.Raw(s).Bytes(); b != s {
			t.Errorf("P1.1: Raw %q: %x", s, b)
		}
	}
}

// P1.1: each call of an Out answers the same Out; what was answered stays.
func TestOutIsOne(t *testing.T) {
	var o Out
	if s := o.Bytes(); s != "" {
		t.Errorf("P1.1: a zero Out has %x", s)
	}
	if o.Num(258) != &o || o.Text("ab") != &o || o.Raw("c") != &o {
		t.Error("P1.1: another Out is answered")
	}
	const want = "\x02\x01\x02\x01\x02abc"
	early := o.Bytes()
	o.Num(-5).Raw("").Text("")
	if early != want || o.Bytes() != want+"\x00\x00" || o.Bytes() != want+"\x00\x00" {
		t.Errorf("P1.1: %x, then %x", early, o.Bytes())
	}
}

// P1.1, P1.2: numbers are taken back, where most lets them just so.
func TestInNum(t *testing.T) {
	for _, c := range numbers {
		for _, limit := range []int{c.x, most} {
			in := Of(c.bytes + "z")
			if x := in.Num(limit); x != c.x || in.Err() != api.OK || in.Left() != 1 {
				t.Errorf("P1.2: %x, most %d: %d, Err %d, Left %d", c.bytes, limit, x, in.Err(), in.Left())
			}
		}
		in := Of(c.bytes)
		if x := in.Num(c.x - 1); x != 0 {
			t.Errorf("P1.1: %x, most one less: %d", c.bytes, x)
		}
		failed(t, "most one less", in, api.ErrBig)
	}
}

// P1.1: the errors of a number, which are those of a Count, too.
func TestWrongNumbers(t *testing.T) {
	for _, c := range wrongNumbers {
		num, count := Of(c.bytes), Of(c.bytes)
		if x := num.Num(c.most); x != 0 {
			t.Errorf("P1.1: Num: %s: %d", c.name, x)
		}
		failed(t, "Num: "+c.name, num, c.err)
		if x := count.Count(c.most); x != 0 {
			t.Errorf("P1.1: Count: %s: %d", c.name, x)
		}
		failed(t, "Count: "+c.name, count, c.err)
	}
}

// P1.1: the errors of a text are those of its length, with a most below 0
// that counts as 0; then its bytes may be wanting.
func TestWrongTexts(t *testing.T) {
	for _, c := range wrongNumbers {
		if c.most < 0 {
			continue
		}
		in := Of(c.bytes)
		if s := in.Text(c.most); s != "" {
			t.Errorf("P1.1: Text: %s: %q", c.name, s)
		}
		failed(t, "Text: "+c.name, in, c.err)
	}
	for _, c := range []struct {
		bytes string
		most  int
		err   api.Errno
	}{
		{"\x01\x03ab", 3, api.ErrEnd},
		{"\x01\x03ab", 2, api.ErrBig},
		{"\x01\x03abc", 2, api.ErrBig},
		{"\x01\x01a", 0, api.ErrBig},
		{"\x01\x01a", -1, api.ErrBig},
		{"\x01\x01", 1, api.ErrEnd},
		{"\x08\x7f\xff\xff\xff\xff\xff\xff\xffab", most, api.ErrEnd},
	} {
		in := Of(c.bytes)
		if s := in.Text(c.most); s != "" {
			t.Errorf("P1.1: Text %x, most %d: %q", c.bytes, c.most, s)
		}
		failed(t, "Text", in, c.err)
	}
}

// P1.1: texts are taken, where most lets them just so; the empty one always.
func TestInText(t *testing.T) {
	for _, c := range []struct {
		bytes string
		most  int
		want  string
	}{
		{"\x01\x02abz", 2, "ab"},
		{"\x01\x02abz", 3, "ab"},
		{"\x01\x02abz", most, "ab"},
		{"\x01\x02\x00\xffz", 2, "\x00\xff"},
		{"\x00z", 0, ""},
		{"\x00z", -1, ""},
		{"\x00z", math.MinInt, ""},
	} {
		in := Of(c.bytes)
		if s := in.Text(c.most); s != c.want || in.Err() != api.OK || in.Left() != 1 {
			t.Errorf("P1.1: Text %x, most %d: %q, Err %d, Left %d", c.bytes, c.most, s, in.Err(), in.Left())
		}
	}
}

// P1.1: bytes are taken as far as there are.
func TestInRaw(t *testing.T) {
	for n, want := range map[int]string{math.MinInt: "", -1: "", 0: "", 1: "a", 2: "ab", 3: "abc"} {
		in := Of("abc")
		if s := in.Raw(n); s != want || in.Err() != api.OK || in.Left() != 3-len(want) {
			t.Errorf("P1.1: Raw %d: %q, Err %d, Left %d", n, s, in.Err(), in.Left())
		}
	}
	for _, n := range []int{4, most} {
		in := Of("abc")
		if s := in.Raw(n); s != "" {
			t.Errorf("P1.1: Raw %d: %q", n, s)
		}
		failed(t, "Raw", in, api.ErrEnd)
	}
	in := Of("")
	if s := in.Raw(0); s != "" || in.End() != api.OK {
		t.Errorf("P1.1: Raw 0 of nothing: %q, %d", s, in.End())
	}
}

// P1.1: no more may be counted than bytes are left behind the number.
func TestInCount(t *testing.T) {
	for _, c := range []struct {
		bytes string
		most  int
		want  int
		left  int
	}{{"\x00", 0, 0, 0}, {"\x01\x02ab", 2, 2, 2}, {"\x01\x02abc", 9, 2, 3}, {"\x01\x01a", most, 1, 1}} {
		in := Of(c.bytes)
		if n := in.Count(c.most); n != c.want || in.Err() != api.OK || in.Left() != c.left {
			t.Errorf("P1.1: Count %x: %d, Err %d, Left %d", c.bytes, n, in.Err(), in.Left())
		}
	}
	for _, c := range []struct {
		bytes string
		most  int
		err   api.Errno
	}{
		{"\x01\x03ab", 9, api.ErrEnd},
		{"\x01\x01", 1, api.ErrEnd},
		{"\x08\x7f\xff\xff\xff\xff\xff\xff\xffab", most, api.ErrEnd},
		{"\x01\x03ab", 2, api.ErrBig},
	} {
		in := Of(c.bytes)
		if n := in.Count(c.most); n != 0 {
			t.Errorf("P1.1: Count %x: %d", c.bytes, n)
		}
		failed(t, "Count", in, c.err)
	}
}

// P1.1: Fail is the first error, if there was none; OK is none.
func TestFail(t *testing.T) {
	in := Of("\x01\x05abc")
	in.Fail(api.OK)
	if in.Err() != api.OK || in.Left() != 5 || in.Num(9) != 5 {
		t.Error("P1.1: Fail of OK did something")
	}
	in.Fail(api.ErrTipset)
	failed(t, "Fail", in, api.ErrTipset)
	in = Of("ab")
	in.Fail(api.Errno(-3))
	failed(t, "Fail below 0", in, api.Errno(-3))
	in = Of("")
	in.Num(1)
	in.Fail(api.ErrArg)
	failed(t, "Fail behind an error", in, api.ErrEnd)
}

// P1.1: End tells bytes that are left, and changes nothing.
func TestEnd(t *testing.T) {
	in := Of("\x01\x05")
	if in.End() != api.ErrForm || in.Err() != api.OK || in.Left() != 2 {
		t.Errorf("P1.1: End %d, Err %d, Left %d", in.End(), in.Err(), in.Left())
	}
	if x := in.Num(5); x != 5 || in.End() != api.OK || in.End() != api.OK {
		t.Errorf("P1.1: behind End: %d, %d", x, in.End())
	}
	if e := Of("").End(); e != api.OK {
		t.Errorf("P1.1: End of nothing: %d", e)
	}
}

// P1.2: fields that stand behind one another come back as they were.
func TestThereAndBack(t *testing.T) {
	var o Out
	for _, c := range numbers {
		o.Num(c.x).Text(c.bytes).Num(2).Raw("de")
	}
	in := Of(o.Bytes())
	for _, c := range numbers {
		if x, s := in.Num(most), in.Text(9); x != c.x || s != c.bytes {
			t.Errorf("P1.2: %d, %x; want %d, %x", x, s, c.x, c.bytes)
		}
		if n := in.Count(2); n != 2 || in.Raw(n) != "de" {
			t.Errorf("P1.2: behind %d: count %d", c.x, n)
		}
	}
	if in.End() != api.OK {
		t.Errorf("P1.2: End %d", in.End())
	}
}

// short answers all texts of at most n of some bytes.
func short(n int) []string {
	all := []string{""}
	last := all
	for range n {
		var next []string
		for _, s := range last {
			for _, b := range []byte{0, 1, 2, 3, 8, 9, 0x7f, 0x80, 0xff} {
				next = append(next, s+string([]byte{b}))
			}
		}
		all, last = append(all, next...), next
	}
	return all
}

// P1.2: whatever is taken as a field is what would be written of it; what
// isn't is told, and nothing is left.
func TestOneWayAlone(t *testing.T) {
	for _, s := range short(4) {
		num, text := Of(s), Of(s)
		x, y := num.Num(most), text.Text(most)
		var a, b Out
		a.Num(x)
		b.Text(y)
		checkTaken(t, s, num, a.Bytes())
		checkTaken(t, s, text, b.Bytes())
	}
}

func checkTaken(t *testing.T, s string, in *In, written string) {
	t.Helper()
	if in.Err() != api.OK {
		if in.Left() != 0 {
			t.Errorf("P1.2: %x: error %d, and %d left", s, in.Err(), in.Left())
		}
		return
	}
	if taken := s[:len(s)-in.Left()]; taken != written {
		t.Errorf("P1.2: %x was taken as what is written %x", taken, written)
	}
}

// P1.2: no number's bytes begin with another one's, no text's with another
// one's.
func TestNoBeginning(t *testing.T) {
	var nums, texts []string
	for _, c := range numbers {
		var o Out
		nums = append(nums, o.Num(c.x).Bytes())
	}
	for _, s := range short(2) {
		var o Out
		texts = append(texts, o.Text(s).Bytes())
	}
	for _, l := range [][]string{nums, texts} {
		for i, a := range l {
			for j, b := range l {
				if i != j && strings.HasPrefix(a, b) {
					t.Errorf("P1.2: %x begins with %x", a, b)
				}
			}
		}
	}
}
