package line

import (
	"fmt"
	"math"
	"math/rand"
	"reflect"
	"regexp"
	"slices"
	"strconv"
	"strings"
	"testing"
)

// is tells of a line that isn't the one step that is wanted.
func is(t *testing.T, text string, want Step) {
	t.Helper()
	l, n, ok := Parse(text)
	if !ok || n != 0 || len(l) != 1 || !same(l[0], want) {
		t.Errorf("P26.1: %q: %+v, %d, %v, wanted %+v", text, l, n, ok, want)
		return
	}
	if back := l[0].Line(); back != text {
		t.Errorf("P26.2: %q comes back as %q", text, back)
	}
}

// isNone tells of a line that is a step, or is told otherwise than by its number.
func isNone(t *testing.T, text string) {
	t.Helper()
	for _, ahead := range []string{"", "\n", "# note\nopen\n\n"} {
		want := 1 + strings.Count(ahead, "\n")
		if l, n, ok := Parse(ahead + text); ok || n != want || l != nil {
			t.Errorf("P26.1: %q: %+v, %d, %v, wanted %d", ahead+text, l, n, ok, want)
		}
		if l, n, ok := Parse(ahead + text + "\nopen\n?"); ok || n != want || l != nil {
			t.Errorf("P26.1: %q, with others behind it: %+v, %d, %v, wanted %d", ahead+text, l, n, ok, want)
		}
	}
}

// same holds steps against each other, where an empty list is none.
func same(a, b Step) bool {
	return a.Word == b.Word && slices.Equal(a.Names, b.Names) && slices.Equal(a.Nums, b.Nums) && a.Text == b.Text
}

// P26.1, P26.2: the chapter's example, and the ordinary step of each word.
func TestWords(t *testing.T) {
	is(t, "block a 3 1 tk 5 2 0 root", Step{"block", []string{"a", "root"}, []int{3, 1, 5, 2, 0}, "tk"})
	is(t, "block a 3 1 tk 5 2 0 c,b,c", Step{"block", []string{"a", "c", "b", "c"}, []int{3, 1, 5, 2, 0}, "tk"})
	is(t, "block a 3 1 tk 5 2 0 -", Step{"block", []string{"a"}, []int{3, 1, 5, 2, 0}, "tk"})
	for _, word := range []string{"disk", "halt", "clock", "join", "leave"} {
		is(t, word+" 12", Step{Word: word, Nums: []int{12}})
	}
	for _, word := range []string{"open", "head", "look", "unmark", "compact"} {
		is(t, word, Step{Word: word})
	}
	is(t, "crash 3,1,3", Step{Word: "crash", Nums: []int{3, 1, 3}})
	is(t, "crash -", Step{Word: "crash"})
	is(t, "again b2", Step{Word: "again", Names: []string{"b2"}})
	is(t, "wrong b2", Step{Word: "wrong", Names: []string{"b2"}})
	is(t, "raw 0aff", Step{Word: "raw", Text: "\x0a\xff"})
	is(t, "raw -", Step{Word: "raw"})
	is(t, "cert a,b 2,1", Step{Word: "cert", Names: []string{"a", "b"}, Nums: []int{2, 1}})
	is(t, "cert - -", Step{Word: "cert"})
	is(t, "mark a,b", Step{Word: "mark", Names: []string{"a", "b"}})
	is(t, "mark -", Step{Word: "mark"})
	is(t, "take 0 9", Step{Word: "take", Nums: []int{0, 9}})
}

// fields are, for each letter, what is one, and what is none (which may be one
// of another letter).
var fields = map[byte][2][]string{
	'N': {{"0", "7", "10", "1099511627776"}, {"", "-", "x", "1,2", "01", "00", "1099511627777", "-1", "+1", "1.", "0x1", "1_0"}},
	'I': {{"a", "z9", "abcdefghijkl", "a00000000000"}, {"", "-", "9", "1a", "A", "aB", "a,b", "abcdefghijklm", "a_", "é", "a\x00"}},
	'L': {{"-", "a", "root,b", "a,a,a"}, {"", "1", "A", ",", ",a", "a,", "a,,b", "a,1", "-,a", "a,-", "--", "a,abcdefghijklm"}},
	'M': {{"-", "0", "1,22", "5,5,1099511627776"}, {"", "a", ",", ",1", "1,", "1,,2", "1,a", "-,1", "1,-", "--", "1,01", "1,1099511627777"}},
	'T': {{"a", "7", "tk", "01234567", "abcdefgh"}, {"", "-", "A", "abcdefghi", "a,b", "a-", "é", "\xff"}},
	'H': {{"-", "00", "0aff", "0123456789abcdef"}, {"", "0", "0a0", "0A", "zz", "--", "-0", "0-", "é", "\xff\xff", "0x"}},
}

// table is what each word needs.
var table = map[string]string{
	"disk": "N", "open": "", "halt": "N", "crash": "M", "block": "INNTNNNL", "again": "I", "wrong": "I", "raw": "H", "head": "",
	"cert": "LM", "clock": "N", "mark": "L", "unmark": "", "compact": "", "join": "N", "take": "NN", "leave": "N", "look": "",
}

// lineOf answers a word, and what it needs: of each letter the first one that is.
func lineOf(word string, needs string) []string {
	l := []string{word}
	for i := range len(needs) {
		l = append(l, fields[needs[i]][0][0])
	}
	return l
}

// P26.1, P7: each word with just what it needs, with less, with more, with a
// blank ahead, behind, or twice, with each that it needs wrong.
func TestNeeds(t *testing.T) {
	if len(table) != 18 {
		t.Fatalf("%d words", len(table))
	}
	right := func(l []string) bool {
		_, n, ok := Parse(strings.Join(l, " "))
		return ok && n == 0
	}
	for word, needs := range table {
		l := lineOf(word, needs)
		if !right(l) {
			t.Errorf("P26.1: %+v", l)
		}
		for n := range needs {
			isNone(t, strings.Join(l[:1+n], " "))
			isNone(t, strings.Join(l[:1+n], " ")+" ")
			isNone(t, strings.Join(slices.Delete(slices.Clone(l), 1+n, 2+n), " "))
			isNone(t, strings.Join(slices.Insert(slices.Clone(l), 1+n, ""), " ")) // two blanks between
			for _, field := range fields[needs[n]][0] {
				x := slices.Clone(l)
				x[1+n] = field
				if !right(x) {
					t.Errorf("P26.1: %+v", x)
				}
			}
			for _, field := range fields[needs[n]][1] {
				x := slices.Clone(l)
				x[1+n] = field
				isNone(t, strings.Join(x, " "))
			}
		}
		whole := strings.Join(l, " ")
		for _, more := range []string{" ", "  ", " -", " a", " 1", " 00", "\r", "\t", "\x00", " #", " # note", "\v", "\u00a0", "\u2028", "\x85"} {
			isNone(t, whole+more)
		}
		for _, ahead := range []string{" ", "\t", "\r", "\ufeff", "\x00", "-"} {
			isNone(t, ahead+whole)
		}
		isNone(t, strings.ToUpper(whole[:1])+whole[1:])
		isNone(t, strings.ToUpper(word)+whole[len(word):])
		isNone(t, word[:len(word)-1]+whole[len(word):])
		isNone(t, word+"s"+whole[len(word):])
		if needs != "" {
			isNone(t, strings.Replace(whole, " ", "\t", 1))
		}
	}
	for _, text := range []string{" ", "  ", "\r", "\t", " #", "x", "-", "é", "\xff", "\x00", "heads", "he ad", "block", "block a 1 1 ninewords 1 2 0 root", "mark é", "mark \xff", "he\u0430d", "close", "x 5", "note a", "unhalt", "block2 a"} {
		isNone(t, text)
	}
}

// P26.1: an empty line, and one that begins with #, says nothing, but counts.
func TestNothing(t *testing.T) {
	for _, text := range []string{"", "\n", "\n\n\n", "#", "# note", "##", "#\xff\xfe", "#é\r", "#open\n\n# \n"} {
		if l, n, ok := Parse(text); len(l) != 0 || n != 0 || !ok {
			t.Errorf("P26.1: %q: %+v, %d, %v", text, l, n, ok)
		}
	}
	l, n, ok := Parse("\n# x\nopen\n\n#\nclock 5\n\nhead\n")
	if !ok || n != 0 || len(l) != 3 || l[0].Word != "open" || l[1].Word != "clock" || l[2].Word != "head" {
		t.Errorf("P26.1: %+v, %d, %v", l, n, ok)
	}
	for text, want := range map[string]int{"\r\nopen": 1, "open\r\nhead": 1, "open\n\r": 2, "\n\n#\n \nopen": 4, "open\n#\n\nhead\n ": 5} {
		if l, n, ok := Parse(text); ok || n != want || l != nil {
			t.Errorf("P26.1: %q: %+v, %d, %v, wanted %d", text, l, n, ok, want)
		}
	}
}

// P26.1: numbers at their bounds, and of many digits.
func TestNumbers(t *testing.T) {
	for _, n := range []int{0, 1, 9, 10, 99, 1<<31 - 1, 1 << 31, 1 << 32, 1<<40 - 1, 1 << 40} {
		is(t, "disk "+strconv.Itoa(n), Step{Word: "disk", Nums: []int{n}})
		is(t, fmt.Sprintf("crash %d,0,%d", n, n), Step{Word: "crash", Nums: []int{n, 0, n}})
		is(t, fmt.Sprintf("take %d %d", n, n), Step{Word: "take", Nums: []int{n, n}})
	}
	long := strings.Repeat("9", 10000)
	for _, s := range []string{
		"1099511627777", "2199023255552", "9999999999999", "10995116277760", "4294967296000000000000", "18446744073709551616", "18446744073709551617", long, "1" + strings.Repeat("0", 64),
		strings.Repeat("0", 10000), "00", "01", "010", "01099511627776", "-0", "-1", "+0", " 1", "1 ", "1e3", "٣", "１", "1\x00", "\xb1", "1,", "0b1", "a", "1a",
	} {
		isNone(t, "disk "+s)
		isNone(t, "crash "+s)
		isNone(t, "crash 5,"+s)
		isNone(t, "crash "+s+",5")
		isNone(t, "take 1 "+s)
		isNone(t, "take "+s+" 1")
	}
}

// P26.1: each byte (but a line feed, which ends the line) as a letter of a name,
// of a text, of bytes, of a number, of a word.
func TestLetters(t *testing.T) {
	for b := range 256 {
		if b == '\n' {
			continue
		}
		s := string([]byte{byte(b)})
		digit, small, hex := b >= '0' && b <= '9', b >= 'a' && b <= 'z', b >= '0' && b <= '9' || b >= 'a' && b <= 'f'
		for text, want := range map[string]bool{
			"again " + s: small, "again a" + s: small || digit, "again a" + s + "b": small || digit,
			"mark " + s: small || s == "-", "mark a" + s: small || digit, "mark a" + s + "b": small || digit || s == ",",
			"block a 1 1 " + s + " 1 2 0 -": small || digit, "block a 1 1 a" + s + "b 1 2 0 -": small || digit,
			"raw 0" + s: hex, "raw " + s + "0": hex, "raw 00" + s: false,
			"disk " + s: digit, "disk 1" + s: digit, "disk 1" + s + "2": digit,
			"crash " + s: digit || s == "-", "crash 1" + s + "2": digit || s == ",",
			"hea" + s: s == "d", s + "ead": s == "h" || s == "#", "open" + s: false, s + "open": s == "#", "disk" + s + "1": s == " ",
		} {
			if l, _, ok := Parse(text); ok != want {
				t.Errorf("P26.1: %q: %+v, %v", text, l, ok)
			}
		}
	}
}

// P26.1: names and texts of each length.
func TestLengths(t *testing.T) {
	for n := 1; n < 20; n++ {
		name, text := strings.Repeat("q", n), strings.Repeat("7", n)
		if n <= 12 {
			is(t, "again "+name, Step{Word: "again", Names: []string{name}})
			is(t, "mark a,"+name+",b", Step{Word: "mark", Names: []string{"a", name, "b"}})
			is(t, "again a"+text[1:], Step{Word: "again", Names: []string{"a" + text[1:]}})
		} else {
			isNone(t, "again "+name)
			isNone(t, "mark a,"+name+",b")
			isNone(t, "block "+name+" 1 2 t 3 4 5 -")
		}
		for _, text := range []string{name, text} {
			line := "block a 1 2 " + text + " 3 4 5 -"
			if n <= 8 {
				is(t, line, Step{"block", []string{"a"}, []int{1, 2, 3, 4, 5}, text})
			} else {
				isNone(t, line)
			}
		}
	}
	isNone(t, "again "+strings.Repeat("é", 6))
	isNone(t, "again a"+strings.Repeat("é", 5))
	isNone(t, "block a 1 2 éé 3 4 5 -")
	names, nums := slices.Repeat([]string{"ab"}, 5000), slices.Repeat([]int{77}, 5000)
	is(t, "cert "+strings.Join(names, ",")+" "+strings.Repeat("77,", 4999)+"77", Step{Word: "cert", Names: names, Nums: nums})
	isNone(t, "mark "+strings.Repeat(",", 5000))
	isNone(t, "open"+strings.Repeat(" ", 5000))
	isNone(t, strings.Repeat("open ", 5000))
	isNone(t, strings.Repeat("x", 5000))
}

// P26.1, P26.2: bytes of any kind, and how they are written.
func TestHex(t *testing.T) {
	var all []byte
	for b := range 256 {
		s := string([]byte{byte(b)})
		if want := fmt.Sprintf("%02x", b); Hex(s) != want {
			t.Errorf("P26.1: Hex of %x: %s", b, Hex(s))
		}
		is(t, "raw "+Hex(s), Step{Word: "raw", Text: s})
		all = append(all, byte(b))
	}
	for _, s := range []string{"", string(all), string(all[200:]) + string(all), strings.Repeat("\x00", 5000), "-", "ab", "é", "\n"} {
		want := fmt.Sprintf("%x", s)
		if s == "" {
			want = "-"
		}
		if Hex(s) != want {
			t.Errorf("P26.1: Hex of %q: %s", s, Hex(s))
		}
		is(t, "raw "+Hex(s), Step{Word: "raw", Text: s})
	}
	for _, s := range []string{"0", "000", "-0", "0-", "--", "-00", "00-", "0A", "A0", "FF", "0g", "g0", " 00", "0 0", "00,00", "0x00", "é", "éé", "00é", "\xff\xff", "00\xff", "0\xff", "0٣", "00\r"} {
		isNone(t, "raw "+s)
	}
}

// P26.1: at most 300 steps: of one more the line's number; of a line that is no
// step, too, the number of the first one of both.
func TestSteps(t *testing.T) {
	lines := func(n int) string { return strings.Repeat("open\n\n# x\n", n) } // each third line is a step
	for _, n := range []int{0, 1, 299, 300} {
		for _, behind := range []string{"", "#", "\n\n# open", "\n"} {
			l, at, ok := Parse(lines(n) + behind)
			if !ok || at != 0 || len(l) != n {
				t.Errorf("P26.1: %d steps, then %q: %d, %d, %v", n, behind, len(l), at, ok)
			}
		}
	}
	for text, want := range map[string]int{
		lines(300) + "open":                              901,
		lines(300) + "\n\nopen":                          903,
		lines(300) + "opens":                             901,
		lines(300) + "\nopen\nopens":                     902, // a line that is no step stands behind the 301st step
		lines(300) + "\nopens\nopen":                     902, // and ahead of it
		lines(150) + "opens\n" + lines(151):              451,
		"\ropen\n" + lines(301):                          1,
		lines(299) + "open\nhead\nx":                     899,
		lines(1000):                                      901,
		strings.Repeat("\n", 5000) + lines(300) + "disk": 5901,
		strings.Repeat("head\n", 300) + "look":           301,
		strings.Repeat("head\n", 299) + "x\nlook\nlook":  300,
	} {
		if l, at, ok := Parse(text); ok || at != want || l != nil {
			t.Errorf("P26.1: %d lines: %d, %d, %v, wanted %d", strings.Count(text, "\n"), len(l), at, ok, want)
		}
	}
}

// grammar tells what lines are steps by the library's means: the numbers' bound
// is told apart.
func grammar() *regexp.Regexp {
	letters := map[rune]string{'N': `(?:0|[1-9][0-9]*)`, 'I': `[a-z][a-z0-9]{0,11}`, 'T': `[a-z0-9]{1,8}`, 'H': `(?:-|(?:[0-9a-f][0-9a-f])+)`}
	letters['L'] = `(?:-|` + letters['I'] + `(?:,` + letters['I'] + `)*)`
	letters['M'] = `(?:-|` + letters['N'] + `(?:,` + letters['N'] + `)*)`
	var words []string
	for word, needs := range table {
		for _, need := range needs {
			word += " " + letters[need]
		}
		words = append(words, word)
	}
	return regexp.MustCompile(`^(?:` + strings.Join(words, "|") + `)$`)
}

// plainly tells whether a line is a step: a text that has too great a number
// isn't. (No other thing has as many digits but bytes, which stand alone.)
func plainly(g *regexp.Regexp, s string) bool {
	if !g.MatchString(s) {
		return false
	}
	word, rest, _ := strings.Cut(s, " ")
	if word == "raw" {
		return true
	}
	for _, field := range strings.FieldsFunc(rest, func(r rune) bool { return r == ' ' || r == ',' }) {
		n, e := strconv.ParseUint(field, 10, 64)
		if e == nil && n > 1<<40 || e != nil && len(field) > 19 {
			return false
		}
	}
	return true
}

// sample answers some step that may be.
func sample(r *rand.Rand) Step {
	words := []string{"disk", "open", "halt", "crash", "block", "block", "again", "wrong", "raw", "head", "cert", "clock", "mark", "unmark", "compact", "join", "take", "leave", "look"}
	x := Step{Word: words[r.Intn(len(words))]}
	letters := func(n int) string {
		s := []byte{byte('a' + r.Intn(26))}
		for range r.Intn(n) {
			s = append(s, "abcdefghijklmnopqrstuvwxyz0123456789"[r.Intn(36)])
		}
		return string(s)
	}
	num := func() int { return r.Intn(1<<40+1) >> r.Intn(41) }
	for _, need := range table[x.Word] {
		switch need {
		case 'N':
			x.Nums = append(x.Nums, num())
		case 'I':
			x.Names = append(x.Names, letters(12))
		case 'T':
			x.Text = letters(8)
		case 'L':
			for range r.Intn(4) {
				x.Names = append(x.Names, letters(12))
			}
		case 'M':
			for range r.Intn(4) {
				x.Nums = append(x.Nums, num())
			}
		case 'H':
			s := make([]byte, r.Intn(6))
			r.Read(s)
			x.Text = string(s)
		}
	}
	return x
}

// P26.2: any steps: there and back, and all at once.
func TestBack(t *testing.T) {
	r := rand.New(rand.NewSource(1))
	for range 3000 {
		var want []Step
		var lines []string
		for range r.Intn(8) {
			x := sample(r)
			is(t, x.Line(), x)
			want, lines = append(want, x), append(lines, x.Line())
			for r.Intn(4) == 0 {
				lines = append(lines, []string{"", "# " + x.Line()}[r.Intn(2)])
			}
		}
		l, n, ok := Parse(strings.Join(lines, "\n"))
		if !ok || n != 0 || !slices.EqualFunc(l, want, same) {
			t.Fatalf("P26.2: %q: %+v, %d, %v", lines, l, n, ok)
		}
	}
}

// P26.1, P26.2, P7: any lines, near to those that may be, against the library's
// expressions; each that is one comes back as it was.
func TestAny(t *testing.T) {
	r, g := rand.New(rand.NewSource(2)), grammar()
	letters := []string{" ", " ", ",", ",", "-", "0", "1", "9", "a", "f", "g", "z", "A", "#", "\r", "\t", "é", "\xff", "\x00", "1099511627776", "1099511627777", "abcdef", "٣"}
	steps := 0
	for range 200000 {
		s := sample(r).Line()
		for range 1 + r.Intn(2) {
			i := r.Intn(len(s) + 1)
			j := min(len(s), i+r.Intn(3))
			s = s[:i] + []string{"", letters[r.Intn(len(letters))]}[r.Intn(2)] + s[j:]
		}
		if s == "" || s[0] == '#' {
			continue
		}
		l, n, ok := Parse(s)
		if ok != plainly(g, s) {
			t.Fatalf("P26.1: %q: %+v, %d, %v", s, l, n, ok)
		}
		if !ok && (n != 1 || l != nil) {
			t.Fatalf("P26.1: %q: %+v, %d", s, l, n)
		}
		if ok {
			steps++
			if n != 0 || len(l) != 1 || l[0].Line() != s {
				t.Fatalf("P26.2: %q: %+v, %d", s, l, n)
			}
		}
	}
	if steps < 10000 || steps > 190000 {
		t.Errorf("of 200000 lines %d are steps", steps)
	}
}

// P1: any bytes at all, in any number of lines: the number is that of the first
// line that is no step.
func TestBytes(t *testing.T) {
	r, g := rand.New(rand.NewSource(3)), grammar()
	for range 20000 {
		var lines []string
		want := 0
		for n := range r.Intn(6) {
			s := make([]byte, r.Intn(4))
			r.Read(s)
			text := strings.ReplaceAll(string(s), "\n", "")
			if r.Intn(3) > 0 {
				text = sample(r).Line()
			}
			lines = append(lines, text)
			if want == 0 && text != "" && text[0] != '#' && !plainly(g, text) {
				want = 1 + n
			}
		}
		if l, n, ok := Parse(strings.Join(lines, "\n")); n != want || ok != (want == 0) || !ok && l != nil {
			t.Fatalf("P26.1: %q: %+v, %d, %v, wanted %d", lines, l, n, ok, want)
		}
	}
}

// P1: Line of steps that Parse never answers ends, too; and no step is changed
// by it.
func TestLine(t *testing.T) {
	if (Step{}).Line() != "" {
		t.Errorf("P26.1: the line of a zero step")
	}
	for word := range table {
		for n := range 3 {
			x := Step{Word: word, Names: slices.Repeat([]string{"A b"}, n), Nums: slices.Repeat([]int{math.MinInt}, n), Text: strings.Repeat("\xff", n)}
			if !strings.HasPrefix(x.Line(), word) {
				t.Errorf("P26.1: %+v: %q", x, x.Line())
			}
		}
	}
	names, nums := []string{"a", "b", "spare"}, []int{1, 2, 3, 4, 5, 77}
	x := Step{Word: "block", Names: names[:2], Nums: nums[:5], Text: "t"}
	if x.Line() != "block a 1 2 t 3 4 5 b" || x.Line() != "block a 1 2 t 3 4 5 b" {
		t.Errorf("P26.1: %q", x.Line())
	}
	if !slices.Equal(names, []string{"a", "b", "spare"}) || !slices.Equal(nums, []int{1, 2, 3, 4, 5, 77}) {
		t.Errorf("rule 5: Line changes its step: %v, %v", names, nums)
	}
}

// Rule 5: no two lists of an answer share memory.
func TestMemory(t *testing.T) {
	const text = "block a 1 2 t 3 4 5 b\ncert a,b 1,2\ncert a,b 1,2\ntake 3 4\nmark a,b"
	l, _, _ := Parse(text)
	want, _, _ := Parse(text)
	for i := range l {
		got := l[i]
		names, nums := got.Names[:cap(got.Names)], got.Nums[:cap(got.Nums)]
		for n := range names {
			names[n] = "spoilt"
		}
		for n := range nums {
			nums[n] = -1
		}
		if rest := l[i+1:]; len(rest) > 0 && !reflect.DeepEqual(rest, want[i+1:]) {
			t.Errorf("rule 5: what is behind step %d: %+v", i, rest)
		}
	}
	if again, _, _ := Parse(text); !reflect.DeepEqual(again, want) {
		t.Errorf("rule 5: %+v", again)
	}
}
