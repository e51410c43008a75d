package script

import (
	"fmt"
	"math"
	"reflect"
	"slices"
	"strings"
	"testing"

	"coxswain/api"
	"coxswain/cert"
	"coxswain/command"
	"coxswain/digest"
	"coxswain/header"
	"coxswain/line"
	"coxswain/snap"
	"coxswain/state"
	"coxswain/table"
)

// tells has a world do lines, with ; between, and tells of answers that aren't
// those that are wanted, with ; between, too.
func tells(t *testing.T, w *World, lines, want string) {
	t.Helper()
	got := w.Run(strings.ReplaceAll(lines, ";", "\n"))
	if got != strings.ReplaceAll(want, ";", "\n")+"\n" {
		t.Errorf("P28.1: %s: %q, wanted %s", lines, got, want)
	}
}

// told has a new world do lines, and tells of unlike answers.
func told(t *testing.T, lines, want string) *World {
	t.Helper()
	w := New()
	tells(t, w, lines, want)
	return w
}

// behind answers a new world that is open, behind lines that are done without
// an error.
func behind(t *testing.T, lines ...string) *World {
	t.Helper()
	w := New()
	for _, x := range append([]string{"open"}, lines...) {
		if got := w.Run(x); strings.HasPrefix(got, "code") || strings.HasPrefix(got, "line") || got == "closed\n" {
			t.Fatalf("P28.1: %s: %q", x, got)
		}
	}
	return w
}

// over answers a header of a script: over these ones; of none over the genesis.
func over(height, miner int, ticket string, wins, salt int, parents ...header.Header) header.Header {
	h := header.Header{Height: height, Miner: miner, Ticket: ticket, Wins: wins, Power: 2, Salt: salt}
	h.Parents, _ = header.Names(keyOf(parents...))
	return h
}

// keyOf answers the key of headers; of none that of the genesis.
func keyOf(l ...header.Header) string {
	names := []api.ID{}
	for _, h := range l {
		names = append(names, h.ID())
	}
	if len(l) == 0 {
		names = append(names, header.Root())
	}
	return header.Key(names...)
}

// raw answers the line that tells a command by its bytes.
func raw(c command.Command) string { return "raw " + line.Hex(command.Bytes(c)) }

// P28.1, P28.2: the document's ten examples of the whole.
func TestTen(t *testing.T) {
	for _, x := range [][2]string{
		{"open;clock 5;head", "ok;set;0 0 root"},
		{"open;clock 3;block a 1 0 t 5 2 0 root;head", "ok;set;in moved;1 384 a"},
		{"open;block a 1 0 t 5 2 0 root;clock 1;head;clock 2;head", "ok;held;set;0 0 root;set moved;1 384 a"},
		{"open;clock 9;block a 1 0 t 5 2 0 root;block b 2 1 t 5 2 0 a;disk 9999;open;clock 9;again b;look;again a;head", "ok;set;in moved;in moved;ok;ok;set;orphan;9 1 1 0 0 0 74;in moved;2 768 b"},
		{"open;clock 9;block a 1 0 t 1 2 0 root;block b 1 1 s 5 2 0 root;cert a 0,1,2;head;cert b 0,1,2,3", "ok;set;in moved;in moved;accepted moved;1 281 a;code 16"},
		{"open;clock 9;block a 1 0 t 1 2 0 root;cert a 0,1;wrong a;again a;cert a 3,1", "ok;set;in moved;code 14;code 8;code 9;code 1"},
		{"open;clock 9;block a 1 0 t 5 2 0 root;block b 1 0 t 5 2 1 root;head", "ok;set;in moved;in moved;0 0 root"},
		{"open;join 9;clock 9;block a 1 0 t 5 2 0 root;block b 2 1 t 5 2 0 a;take 0 9;mark a;block c 3 2 t 5 2 0 root;head;take 0 9", "ok;0;set;in moved;in moved;+1 +2;set;in;2 768 b;."},
		{"open;clock 9;block a 1 0 t 5 2 0 root;halt 1;clock 10;crash 5;open;head;look", "ok;set;in moved;ok;code 6;ok;ok;1 384 a;9 2 0 0 0 0 73"},
		{"disk 20;open;clock 1;clock 2;compact;head", "ok;ok;set;code 5;code 5;0 0 root"},
	} {
		told(t, x[0], x[1])
	}
}

// lines are a line of each word of the chapter's table.
var lines = []string{
	"disk 7", "open", "halt 7", "crash 1,2", "block b 1 0 t 5 2 0 root", "again root", "again nobody", "wrong root", "raw 01030105", "raw -",
	"cert root 0", "cert nobody 0", "clock 5", "mark root", "mark nobody", "mark -", "unmark", "compact", "join 0", "take 0 0", "leave 0", "head", "look",
}

// P28.1: each word with nothing open: at first, behind a crash, and behind
// another disk; closed is ahead of all else, and changes nothing.
func TestClosed(t *testing.T) {
	for _, ahead := range []string{"", "open\nclock 3\ncrash -\n", "open\nclock 3\ncrash 9\n", "open\ndisk 500\n", "halt 0\n", "disk 0\n", "open\nopen\ndisk 3\ncrash -\n"} {
		for _, x := range lines {
			want := "closed"
			if word, _, _ := strings.Cut(x, " "); word == "disk" || word == "open" || word == "halt" || word == "crash" {
				want = "ok"
			}
			w := New()
			w.Run(ahead)
			if w.Engine() != nil {
				t.Errorf("P28.1: behind %q something is open", ahead)
			}
			tells(t, w, x, want)
			if open := w.Engine() != nil; open != (x == "open") {
				t.Errorf("P28.1: behind %s it is open: %v", x, open)
			}
		}
	}
	told(t, "block a 1 0 t 5 2 0 root;open;again a;block a 1 0 t 5 2 0 root;crash -;block a 2 0 t 5 2 0 root;open;again a;clock 1;again a;head",
		"closed;ok;code 7;held;ok;closed;ok;code 9;set;code 9;0 0 root") // the held one is there anew
	told(t, "join 5;clock 4;unmark;compact;open;look;join 5", "closed;closed;closed;closed;ok;0 1 0 0 0 0 0;0")
}

// P28.1: the ordinary line of each word, and what is told of it.
func TestWords(t *testing.T) {
	w := told(t, "disk 290;open;clock 9;look", "ok;ok;set;9 1 0 0 0 0 13")
	tells(t, w, "block a 1 0 t 5 2 0 root;again a;wrong a;look", "in moved;code 9;code 8;9 2 0 0 0 0 73")
	tells(t, w, "raw 0103010a;look", "set;10 2 0 0 0 0 86")
	tells(t, w, "join 3;join 0;join 64;leave 1;leave 1;join 99", "0;1;2;ok;code 7;3")
	tells(t, w, "block b 2 1 t 5 2 0 a;take 0 1;take 0 1;take 1 1;take 3 9", "in moved;+2;.;code 7;+2")
	tells(t, w, "mark a;unmark;unmark;look", "set;set;code 7;10 3 0 0 0 0 203")
	tells(t, w, "cert a 0,1,2;look;compact", "code 5;10 3 0 0 0 0 203;code 5")
	tells(t, w, "disk 2000;open;raw 0103010a;again a;again b;cert a 0,1,2;head;look", "ok;ok;set;in moved;in moved;accepted;2 768 b;10 3 0 0 1 0 226")
	tells(t, w, "compact;look;open;head;take 0 1", "ok;10 3 0 0 1 0 227;ok;2 768 b;code 7")
	tells(t, w, "halt 3;crash 4,4;clock 3;open;clock 3;clock 11;look", "ok;ok;closed;ok;code 17;set;11 3 0 0 1 0 240")
	tells(t, w, "# nothing;;look;#", "11 3 0 0 1 0 240")
	if got := w.Run("") + w.Run("\n\n#\n"); got != "" {
		t.Errorf("P28.1: no steps: %q", got)
	}
}

// P28.1: each Status, with the head another one, where that may be, and without.
func TestEnds(t *testing.T) {
	told(t, "open;clock 9;block a 1 0 b 5 2 0 root;block b 2 1 b 1 2 0 root;block c 3 1 b 1 2 0 b", "ok;set;in moved;in;in moved")
	told(t, "open;clock 2;block a 1 0 b 5 2 0 root;block b 2 1 b 5 2 0 a;clock 3;clock 4", "ok;set;in moved;in;set moved;set")
	told(t, "open;clock 9;block a 1 0 b 5 2 0 root;block b 2 1 b 5 2 0 root;mark b;mark a;unmark;mark root", "ok;set;in moved;in;set moved;set moved;set;set")
	told(t, "open;clock 9;block a 1 0 b 1 2 0 root;block b 2 1 b 5 2 0 root;mark a;unmark", "ok;set;in moved;in moved;set moved;set moved")
	told(t, "open;clock 9;block a 1 0 b 1 2 0 root;block b 2 1 b 5 2 0 root;cert root 0,1,2;cert a 0,1,2;cert a 0,1,2;cert b 0,1,2",
		"ok;set;in moved;in moved;accepted;accepted moved;accepted;code 16")
	told(t, "open;block a 3 0 b 5 2 0 root;block b 4 0 b 5 2 0 a;disk 9999;open;clock 9;again b;look;again a;head",
		"ok;held;held;ok;ok;set;orphan;9 1 1 0 0 0 73;in moved;4 768 b")
	told(t, "open;block a 3 0 b 5 2 0 root;cert a 0,1,2;cert a 0,1,2;cert a 0,1,3;look;clock 3;look;clock 4;head", // final, it leads ahead of its time
		"ok;held;waits;code 9;waits;0 1 0 1 0 2 244;set moved;3 2 0 0 1 0 257;set;3 384 a")
}

// P28.1: what goes for want of room, as there are eight of each: a held header,
// an orphan, a certificate.
func TestGone(t *testing.T) {
	var wait []string
	for i := range 8 {
		wait = append(wait, fmt.Sprintf("block h%d 5 %d b 5 2 0 root", i, i))
	}
	w := behind(t, append([]string{"clock 1"}, wait...)...)
	tells(t, w, "look;block z 6 9 b 5 2 0 root;again z", "1 1 0 8 0 0 500;gone;gone")
	tells(t, w, "block y 4 9 b 5 2 0 root;again y;look;clock 5;look", "held;code 9;1 1 0 8 0 0 683;set moved;5 9 0 0 0 0 696")

	w = behind(t, "block p 1 0 b 5 2 0 root", "disk 65536", "open", "clock 9")
	for i := range 8 {
		tells(t, w, fmt.Sprintf("block o%d 5 %d b 5 2 0 p", i, i), "orphan")
	}
	tells(t, w, "block z 6 9 b 5 2 0 p;again z;block y 4 9 b 5 2 0 p;look;again p;look", "gone;gone;orphan;9 1 8 0 0 0 683;in moved;9 10 0 0 0 0 743")

	w = behind(t, "block p 1 0 b 5 2 0 root")
	for i := range 8 {
		tells(t, w, fmt.Sprintf("cert p 0,1,2,%d", 3+i), "waits")
	}
	late := cert.Cert{Instance: 1, Base: keyOf(), Final: keyOf()}
	tells(t, w, raw(command.Cert{Bytes: late.Bytes(), Right: true})+";look", "gone;0 1 0 1 0 8 "+fmt.Sprint(w.Engine().Size()+87))
	tells(t, w, "clock 1;look", "set moved;1 2 0 0 1 0 "+fmt.Sprint(w.Engine().Size()+13))
}

// P28.1: a name that there isn't is ahead of all else, and changes nothing; root
// is one, and stays the genesis.
func TestNames(t *testing.T) {
	w := told(t, "open;clock 9;again a;wrong a;mark a;mark root,a;cert a 0,1,2;cert root,a 9,8;block a 1 0 t 5 2 0 a;block a 0 99 t 99 0 0 root,x;again a",
		"ok;set;code 7;code 7;code 7;code 7;code 7;code 7;code 7;code 7;code 7")
	tells(t, w, "look;halt 0;clock 10;mark a;again a;block b 1 0 t 5 2 0 a;clock 11;crash -;again a", "9 1 0 0 0 0 13;ok;code 6;code 7;code 7;code 7;code 6;ok;closed")
	w = told(t, "open;clock 9;again root;wrong root;head;mark root;mark root;cert root 0,1,2", "ok;set;code 1;code 1;0 0 root;set;code 9;accepted")
	tells(t, w, "block root 1 0 t 5 2 0 root;again root;head", "in moved;code 1;1 384 "+digest.Short(over(1, 0, "t", 5, 0).ID()))
	tells(t, w, "block a 1 0 t 5 2 0 root;head;mark root;block b 1 1 s 5 2 0 root;block root 2 3 t 1 2 0 a", "code 9;1 384 a;code 9;in moved;in moved")
	if h := over(2, 3, "t", 1, 0, over(1, 0, "t", 5, 0)); !w.Engine().State().Dag().Has(h.ID()) {
		t.Errorf("P28.1: a header that is called root doesn't come in")
	}
	other := told(t, "open;clock 9;again a;again b", "ok;set;code 7;code 7") // each world has names of its own
	tells(t, other, "block a 1 5 x 5 2 0 root", "in moved")
	tells(t, w, "again a", "code 9")
}

// P28.1: a name is of the header that it was given last, however that ended.
func TestNamedTwice(t *testing.T) {
	a, b := over(1, 0, "t", 5, 0), over(2, 1, "t", 5, 0)
	w := told(t, "open;clock 9;block x 1 0 t 5 2 0 root;head;block x 1 0 t 5 2 0 root;head", "ok;set;in moved;1 384 x;code 9;1 384 x")
	tells(t, w, "block x 2 1 t 5 2 0 root;head;again x;wrong x;mark x", "in;1 384 "+digest.Short(a.ID())+";code 9;code 8;set moved")
	tells(t, w, "head;unmark;block x 3 2 t 5 2 0 x;head", "2 384 x;set;in moved;3 768 x")
	if !w.Engine().State().Dag().Has(over(3, 2, "t", 5, 0, b).ID()) {
		t.Errorf("P28.1: a header over the one that had its name ahead")
	}
	tells(t, w, "block x 0 2 t 5 2 0 root;again x;mark x;head", "code 1;code 1;code 7;3 768 "+digest.Short(over(3, 2, "t", 5, 0, b).ID()))
	told(t, "open;clock 9;halt 0;block a 1 0 t 5 2 0 root;block b 2 1 t 5 2 0 a;crash -;open;clock 9;again b;again a;head",
		"ok;set;ok;code 6;code 6;ok;ok;code 17;orphan;in moved;2 768 b")
	told(t, "disk 13;open;clock 9;block a 1 0 t 5 2 0 root;disk 99;open;clock 9;again a;head", "ok;ok;set;code 5;ok;ok;set;in moved;1 384 a")
	told(t, "open;clock 9;block b 1 0 t 5 2 0 root;block c 1 0 t 5 2 0 root;block a 1 0 t 5 2 0 root;head;block a 2 0 t 1 2 0 root;head",
		"ok;set;in moved;code 9;code 9;1 384 a;in;1 384 b") // of several names the least one
}

// P28.1: what a block says: each of its numbers, its ticket, its parents by
// their names, sorted, each once.
func TestBlock(t *testing.T) {
	w := told(t, "open;clock 9;block a 1 0 tk 5 3 7 root;block b 1 1 s 4 3 9 root;block c 3 63 abcdefgh 15 1099511627776 1073741824 b,a,b;head",
		"ok;set;in moved;in moved;in moved;3 26369 c")
	a := header.Header{Height: 1, Miner: 0, Ticket: "tk", Wins: 5, Power: 3, Parents: []api.ID{header.Root()}, Salt: 7}
	b := header.Header{Height: 1, Miner: 1, Ticket: "s", Wins: 4, Power: 3, Parents: []api.ID{header.Root()}, Salt: 9}
	c := header.Header{Height: 3, Miner: 63, Ticket: "abcdefgh", Wins: 15, Power: 1 << 40, Salt: 1 << 30}
	c.Parents, _ = header.Names(header.Key(b.ID(), a.ID()))
	for _, h := range []header.Header{a, b, c} {
		if !w.Engine().State().Dag().Has(h.ID()) {
			t.Errorf("P28.1: %v isn't there", h)
		}
	}
	told(t, "open;clock 9;block a 1 0 t 5 2 0 root;block b 1 1 t 5 2 0 root;block c 2 0 t 5 2 0 a,b;block d 2 0 t 5 2 0 b,a;again d", "ok;set;in moved;in moved;in moved;code 9;code 9")
	for lacks, want := range map[string]string{
		"0 0 t 5 2 0 root": "code 1", "1073741825 0 t 5 2 0 root": "code 1", "1 64 t 5 2 0 root": "code 1", "1 0 t 0 2 0 root": "code 1",
		"1 0 t 16 2 0 root": "code 1", "1 0 t 5 1 0 root": "code 1", "1 0 t 5 2 1073741825 root": "code 1", "1 0 t 5 2 0 -": "code 1",
		"2 0 t 5 2 0 a,b,c,d,e,root": "code 4", "2 0 t 5 2 0 a,a,a,a,a,a": "in", "2 0 t 5 2 0 a,c": "code 10", "1 0 t 5 2 1 a": "code 11",
		"2 9 t 5 2 0 a,b,d,e,f": "in moved", "1073741824 0 t 5 2 0 root": "held",
	} {
		w := behind(t, "clock 9", "block a 1 0 t 5 2 0 root", "block b 1 1 t 5 2 0 root", "block c 1 0 s 5 2 0 root", "block d 1 2 t 5 2 0 root", "block e 1 3 t 5 2 0 root", "block f 1 4 t 5 2 0 root")
		tells(t, w, "block x "+lacks, want)
	}
}

// P28.1: certificates: of signers that are no quorum, out of order, twice, too
// many, none; of no names, of those of no tipset, of too many; from what is
// final on.
func TestCert(t *testing.T) {
	ahead := []string{"clock 9", "block a 1 0 t 5 2 0 root", "block b 2 1 t 5 2 0 a", "block c 1 0 s 5 2 0 root", "block d 1 2 s 5 2 0 root", "block h 20 0 t 5 2 0 root"}
	many := "0"
	for i := range 64 {
		many += fmt.Sprintf(",%d", i+1)
	}
	for says, want := range map[string]string{
		"a -": "code 14", "a 0": "code 14", "a 0,1": "code 14", "a 2,3": "code 14", "a 1,2,3": "accepted", "a 0,1,2,3": "accepted", "a 0,1,9,63": "code 14", "a 0,1,2,63": "accepted",
		"a 1,0,2": "code 1", "a 0,1,1,2": "code 1", "a 0,1,2,64": "code 1", "a 0,1,2,1099511627776": "code 1", "a " + many: "code 4",
		"- 0,1,2": "code 1", "root 0,1,2": "accepted", "a,root 0,1,2": "code 15", "a,c 0,1,2": "code 15", "a,a 0,1,2": "accepted", "b 0,1,2": "accepted",
		"c 0,1,2": "accepted moved", "d,c 0,1,2": "accepted moved", "h 0,1,2": "waits", "h 0,1": "code 14", "a,b,c,d,h 0,1,2": "waits", "a,b,c,d,h,root 0,1,2": "code 4",
	} {
		tells(t, behind(t, ahead...), "cert "+says, want)
	}
	w := behind(t, ahead...)
	tells(t, w, "cert a 0,1,2;cert a 0,1,2;cert b 1,2,3;cert a 0,1,2;cert c 0,1,2;cert b 0,1,3", "accepted;accepted;accepted;code 16;code 16;accepted")
	want := []cert.Cert{
		{Instance: 0, Base: keyOf(), Final: keyOf(over(1, 0, "t", 5, 0)), Signers: []int{0, 1, 2}},
		{Instance: 1, Base: keyOf(over(1, 0, "t", 5, 0)), Final: keyOf(over(1, 0, "t", 5, 0)), Signers: []int{0, 1, 2}},
		{Instance: 2, Base: keyOf(over(1, 0, "t", 5, 0)), Final: keyOf(over(2, 1, "t", 5, 0, over(1, 0, "t", 5, 0))), Signers: []int{1, 2, 3}},
	}
	got := w.Engine().State().Chain().Certs()
	for i, c := range want {
		if len(got) != 4 || got[i].ID() != c.ID() {
			t.Errorf("P28.1: certificate %d: %v", i, got)
		}
	}
}

// P28.1: raw of each command's bytes, of bytes that are none (each error of
// layer 20), and of what is refused; whatever it tells has no name.
func TestRaw(t *testing.T) {
	a := over(1, 0, "t", 5, 0)
	signed := cert.Cert{Base: keyOf(), Final: keyOf(a), Signers: []int{0, 2, 3}}
	w := behind(t)
	tells(t, w, raw(command.Clock{Epoch: 9})+";"+raw(command.Block{Bytes: a.Bytes(), Right: true})+";"+raw(command.Mark{Key: keyOf(a)})+";"+raw(command.Unmark{})+";head",
		"set;in moved;set;set;1 384 "+digest.Short(a.ID()))
	tells(t, w, raw(command.Cert{Bytes: signed.Bytes()})+";"+raw(command.Cert{Bytes: signed.Bytes(), Right: true})+";"+raw(command.Block{Bytes: a.Bytes()})+";"+raw(command.Block{Bytes: a.Bytes(), Right: true})+";look",
		"code 8;accepted;code 8;code 9;9 2 0 0 1 0 221")
	tells(t, w, "raw -;raw 0103;raw 01;raw 09;raw 0100;raw 010301;raw 0106;raw 0100ff;raw 01ff;raw 020100;raw 01030105ff;raw 010500;raw 010408;raw 010101010102", "code 2;code 2;code 2;code 3;code 3;code 2;code 18;code 3;code 18;code 4;code 3;code 3;code 2;code 2")
	tells(t, w, "raw 01030440000001;raw 0104;raw 010400;raw 01010103;raw 0101010100;look", "code 1;code 2;code 1;code 4;code 2;9 2 0 0 1 0 221")
	tells(t, w, "halt 0;raw -;raw 0103010a;raw -;raw 0106;raw 0103010a", "ok;code 2;code 6;code 2;code 18;code 6")
}

// P28.1, P5: no events, several, few of many, of a mark, of a certificate, of
// what was missed, of a feed that there isn't, or isn't any more.
func TestTake(t *testing.T) {
	w := behind(t, "clock 9")
	tells(t, w, "take 0 0;take 0 9;join 64;take 0 0;take 0 9;take 1 0", "code 7;code 7;0;.;.;code 7")
	tells(t, w, "block a 1 0 t 5 2 0 root;block b 1 1 t 5 2 0 root;block c 3 2 t 9 2 0 b;take 0 0;take 0 3;take 0 0;take 0 1099511627776;take 0 1", "in moved;in moved;in moved;.;+1 -1 +1;.;-1 +1 +3;.")
	tells(t, w, "join 2;mark a;take 0 9;take 1 9;unmark;take 0 9;take 1 9", "1;set moved;-3 -1 +1;!1;set moved;-1 +1 +3;!3")
	tells(t, w, "join 3;cert a 0,1,2;take 2 9;block d 2 3 t 1 2 0 a;block e 4 3 t 1 2 0 d;take 2 1;take 2 1;take 0 9;take 1 9", "2;accepted moved;-3 -1 +1;in moved;in moved;+2;+4;-3 -1 +1 +2 +4;!4")
	tells(t, w, "leave 1;take 1 9;take 0 9;leave 1;leave 9;open;take 0 9;take 2 9;join 1;take 0 1", "ok;code 7;.;code 7;code 7;ok;code 7;code 7;0;.")
	for i := range 15 {
		tells(t, w, "join 9", fmt.Sprint(i+1))
	}
	tells(t, w, "join 9;leave 3;join 9;join 9;leave 1099511627776;take 1099511627776 1", "code 4;ok;16;code 4;code 7;code 7")
}

// P28.1: the head: of one block, and of several in the order of their names; what
// has no name is told by its name's first digits.
func TestHead(t *testing.T) {
	blocks := []header.Header{over(1, 0, "t", 1, 0), over(1, 1, "t", 2, 0), over(1, 2, "t", 3, 0), over(1, 3, "t", 4, 0)}
	called := map[string]string{keyOf(blocks[0]): "d", keyOf(blocks[1]): "c", keyOf(blocks[2]): "b", keyOf(blocks[3]): digest.Short(blocks[3].ID())}
	w := behind(t, "clock 9", "block d 1 0 t 1 2 0 root", "block c 1 1 t 2 2 0 root", "block b 1 2 t 3 2 0 root", raw(command.Block{Bytes: blocks[3].Bytes(), Right: true}))
	names, _ := header.Names(keyOf(blocks...))
	want := "1 512"
	for _, id := range names {
		want += " " + called[header.Key(id)]
	}
	tells(t, w, "head", want)
	told(t, "open;head;clock 1000000;head;block a 999999 0 t 1 4 0 root;head;block b 1000000 0 t 1 4 0 a;head;clock 1000001;head",
		"ok;0 0 root;set;0 0 root;in moved;999999 563 a;in;999999 563 a;set moved;1000000 1126 b")
}

// P28.1: disks of unlike rooms: a Clock takes 13 bytes, and the state behind it
// more, beside the log.
func TestDisk(t *testing.T) {
	for room, want := range map[string]string{
		"0": "ok;ok;code 5;code 5;code 5;0 1 0 0 0 0 0", "1": "ok;ok;code 5;code 5;code 5;0 1 0 0 0 0 0", "12": "ok;ok;code 5;code 5;code 5;0 1 0 0 0 0 0",
		"13": "ok;ok;set;code 5;code 5;2 1 0 0 0 0 13", "25": "ok;ok;set;code 5;code 5;2 1 0 0 0 0 13", "26": "ok;ok;set;set;code 5;3 1 0 0 0 0 26",
		"76": "ok;ok;set;set;code 5;3 1 0 0 0 0 26", "77": "ok;ok;set;set;ok;3 1 0 0 0 0 51", "1073741824": "ok;ok;set;set;ok;3 1 0 0 0 0 51", "1099511627776": "ok;ok;set;set;ok;3 1 0 0 0 0 51",
	} {
		told(t, "disk "+room+";open;clock 2;clock 3;compact;look", want)
	}
	w := filled(t, 244, 4682)
	tells(t, w, "clock 4926;look;disk 13;open;clock 1;clock 2;disk 26;open;clock 1;clock 2", "code 5;4925 1 0 0 0 0 65536;ok;ok;set;code 5;ok;ok;set;set")
	w = filled(t, 245, 4678, "mark root")
	tells(t, w, "unmark;look", "code 5;4922 1 0 0 0 0 65526") // it takes 11 bytes
}

// filled answers a world behind lines and so many Clocks, each of which takes 13
// bytes below 256, and 14 from there on.
func filled(t *testing.T, from, n int, lines ...string) *World {
	t.Helper()
	w := behind(t, lines...)
	for i := range n {
		if got := w.Run(fmt.Sprintf("clock %d", from+i)); got != "set\n" {
			t.Fatalf("P28.1: clock %d: %q", from+i, got)
		}
	}
	return w
}

// P28.1, P28.2, P4: halts, crashes that leave so much, and Opens between.
func TestHalt(t *testing.T) {
	told(t, "open;halt 0;clock 9;clock 10;look;crash -;clock 9;open;look", "ok;ok;code 6;code 6;0 1 0 0 0 0 0;ok;closed;ok;0 1 0 0 0 0 0")
	for crash, want := range map[string]string{
		"-": "1 1 0 0 0 0 13", "0": "1 1 0 0 0 0 13", "1": "1 1 0 0 0 0 13", "12": "1 1 0 0 0 0 13", "13": "9 1 0 0 0 0 26", "14": "9 1 0 0 0 0 26",
		"1099511627776": "9 1 0 0 0 0 26", "12,13": "1 1 0 0 0 0 13", "13,0": "9 1 0 0 0 0 26", "0,13": "1 1 0 0 0 0 13",
	} {
		told(t, "open;clock 1;halt 1;clock 9;head;look;crash "+crash+";look;open;look;clock 10;open;head", "ok;set;ok;code 6;0 0 root;1 1 0 0 0 0 26;ok;closed;ok;"+want+";set;ok;0 0 root")
	}
	told(t, "halt 2;open;clock 1;clock 2;crash 9;open;clock 3;look", "ok;ok;set;code 6;ok;ok;set;3 1 0 0 0 0 26")
	told(t, "open;clock 1;halt 5;clock 2;clock 3;clock 4;halt 2;clock 4", "ok;set;ok;set;set;code 6;ok;code 6")
	told(t, "open;halt 1;crash -;open;clock 1;halt 1;halt 2;clock 2;clock 3", "ok;ok;ok;ok;set;ok;ok;set;code 6")
	told(t, "open;clock 1;crash 99;crash -;open;look;disk 26;halt 0;disk 13;open;clock 3;halt 0;clock 4", "ok;set;ok;ok;ok;1 1 0 0 0 0 13;ok;ok;ok;ok;set;ok;code 5")
	told(t, "open;clock 1;halt 2;compact;clock 2;crash -;open;look;clock 2;compact;look", "ok;set;ok;code 6;code 6;ok;ok;1 1 0 0 0 0 13;set;ok;2 1 0 0 0 0 51")
}

// P28.1, P7: an Open that is refused leaves what is open, or nothing, as it was.
func TestRefused(t *testing.T) {
	w := behind(t, "clock 3", "join 9", "block a 1 0 t 5 2 0 root", "halt 1")
	tells(t, w, "clock 4", "code 6")
	e := w.Engine()
	tells(t, w, "open;open;look;head;take 0 9;join 9;leave 0;clock 5;compact;again a;again b", "code 6;code 6;3 2 0 0 0 0 86;1 384 a;+1;1;ok;code 6;code 6;code 6;code 7")
	if w.Engine() != e {
		t.Errorf("P28.1: an Open that is refused opens")
	}
	tells(t, w, "crash 5;halt 0;open;look;again a;open;clock 7", "ok;ok;code 6;closed;closed;code 6;closed") // five bytes of a frame are to be cut
	if w.Engine() != nil {
		t.Errorf("P28.1: an Open that is refused opens")
	}
	tells(t, w, "crash -;open;look;clock 4;head", "ok;ok;3 2 0 0 0 0 73;set;1 384 a")
}

// P28.1: what is open: nothing at first, behind a crash, and behind another disk;
// another one behind each open.
func TestEngine(t *testing.T) {
	w := New()
	if w.Engine() != nil {
		t.Errorf("P28.1: something is open at first")
	}
	tells(t, w, "open;clock 5;block a 1 0 t 5 2 0 root", "ok;set;in moved")
	e := w.Engine()
	if e == nil || e.State().Clock() != 5 || e.State().Dag().Len() != 2 || e.Size() != 73 || w.Engine() != e {
		t.Fatalf("P28.1: what is open isn't what was told")
	}
	tells(t, w, "join 5;clock 6;compact;halt 9", "0;set;ok;ok")
	if w.Engine() != e || e.State().Clock() != 6 || !slices.Equal(e.Hub().Numbers(), []int{0}) {
		t.Errorf("P28.1: what is open isn't what was told")
	}
	tells(t, w, "open", "ok")
	if w.Engine() == e || w.Engine() == nil || w.Engine().Hub().Numbers() != nil || !snap.Same(w.Engine().State(), e.State()) {
		t.Errorf("P28.1: opened anew it is the same")
	}
	for _, x := range []string{"crash 1", "disk 65536"} {
		w.Run(x)
		if w.Engine() != nil {
			t.Errorf("P28.1: behind %s something is open", x)
		}
		w.Run("open")
	}
	c := w.Engine().State().Config()
	want := state.Config{Delay: 1, Orphans: 8, Holds: 8, Waits: 8, Cache: 32, Table: []table.Entry{{Miner: 0, Power: 1}, {Miner: 1, Power: 1}, {Miner: 2, Power: 1}, {Miner: 3, Power: 1}}}
	if !reflect.DeepEqual(c, want) {
		t.Errorf("P28.1: the config is %v", c)
	}
}

// P28.1, P7: a script of which a line is wrong: its number is told, and nothing
// of it is done.
func TestLine(t *testing.T) {
	many := strings.Repeat("open\n", 300)
	for _, x := range []struct{ script, want string }{
		{"none", "line 1\n"}, {"open\nnone", "line 2\n"}, {"open\n\n# ?\nclock 5\nclock 05\nnone", "line 5\n"}, {"open\nclock\n", "line 2\n"},
		{" open", "line 1\n"}, {"open\r\nlook", "line 1\n"}, {"\xff", "line 1\n"}, {"open\nblock a 1 0 t 5 2 root", "line 2\n"}, {many + "open", "line 301\n"},
		{"#\n" + many + "\n?", "line 303\n"}, {many, strings.Repeat("ok\n", 300)}, {"", ""}, {"\n", ""}, {"# open", ""},
	} {
		w := New()
		if got := w.Run(x.script); got != x.want || w.Engine() != nil && x.script != many {
			t.Errorf("P28.1: %.50q: %q, wanted %q", x.script, got, x.want)
		}
		tells(t, w, "disk 13;open;clock 4", "ok;ok;set")
		e := w.Engine()
		if got := w.Run("clock 9\ndisk 3\n?"); got != "line 3\n" || w.Engine() != e || e.State().Clock() != 4 {
			t.Errorf("P28.1: a wrong script is done: %q", got)
		}
	}
}

// P28.1: Do tells the same as Run, without a line feed, and keeps nothing of a
// step.
func TestDo(t *testing.T) {
	script := "look\nopen\nclock 9\njoin 9\nblock a 1 0 t 5 2 0 root\nblock b 1 1 s 5 2 0 root,root\nhead\ntake 0 9\nraw 0103010a\ncert a,b 0,1,2\nmark b\nlook\nhalt 0\nclock 99\ncrash 1,2\nagain a"
	steps, _, ok := line.Parse(script)
	if !ok {
		t.Fatal("no script")
	}
	other, w := New(), New()
	want, got := other.Run(script), ""
	for _, x := range steps {
		names, nums := slices.Clone(x.Names), slices.Clone(x.Nums)
		got += w.Do(x) + "\n"
		if !slices.Equal(names, x.Names) || !slices.Equal(nums, x.Nums) {
			t.Errorf("P28.1: %v is changed", x)
		}
		for i := range x.Names {
			x.Names[i] = "?"
		}
		for i := range x.Nums {
			x.Nums[i] = -1
		}
	}
	if got != want {
		t.Errorf("P28.1: Do: %q, wanted %q", got, want)
	}
	more := "open\nagain a\nagain b\nhead\nlook"
	if got, want := w.Run(more), other.Run(more); got != want || !strings.HasPrefix(got, "ok\ncode 9\ncode 9\n") {
		t.Errorf("P28.1: behind Do: %q, wanted %q", got, want)
	}
}

// P28.1, P1, P7: what is no step of layer 26 is told to be wrong, and changes
// nothing.
func TestNoStep(t *testing.T) {
	nums := []int{1, 0, 5, 2, 0}
	for _, x := range []line.Step{
		{}, {Word: "none"}, {Word: "clock"}, {Word: "clock", Nums: []int{-5}}, {Word: "clock", Nums: []int{5, 6}}, {Word: "clock 5"}, {Word: "clock", Nums: []int{5}, Text: "x"},
		{Word: "take"}, {Word: "take", Nums: []int{1}}, {Word: "again"}, {Word: "again", Names: []string{"A"}}, {Word: "again", Names: []string{"a", "b"}}, {Word: "wrong"},
		{Word: "disk"}, {Word: "disk", Nums: []int{1 << 41}}, {Word: "halt"}, {Word: "halt", Nums: []int{-1}}, {Word: "crash", Nums: []int{-1}}, {Word: "join"}, {Word: "leave"},
		{Word: "block"}, {Word: "block", Nums: nums, Text: "t"}, {Word: "block", Names: []string{"b", "root"}, Text: "t"}, {Word: "block", Names: []string{"b", "root"}, Nums: nums[1:], Text: "t"},
		{Word: "block", Names: []string{"b", "root"}, Nums: nums}, {Word: "block", Names: []string{"b", "root"}, Nums: nums, Text: "t "}, {Word: "block", Names: []string{"b,root"}, Nums: nums, Text: "t"},
		{Word: "open", Text: "x"}, {Word: "open", Names: []string{"x"}}, {Word: "look\nlook"}, {Word: "#"}, {Word: "mark", Names: []string{""}}, {Word: "cert", Nums: []int{math.MinInt}},
	} {
		w := behind(t, "clock 9", "block a 1 0 t 5 2 0 root")
		e, was := w.Engine(), w.Run("look\nhead")
		if got := w.Do(x); got != "code 1" || w.Engine() != e || w.Run("look\nhead\nagain b\nclock 10") != was+"code 7\nset\n" {
			t.Errorf("P28.1: %+v: %s", x, got)
		}
		if got := New().Do(x); got != "code 1" {
			t.Errorf("P28.1: %+v with nothing open: %s", x, got)
		}
	}
}
