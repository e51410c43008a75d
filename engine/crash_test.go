package engine

import (
	"testing"

	"coxswain/api"
	"coxswain/command"
	"coxswain/disk"
	"coxswain/snap"
	"coxswain/state"
)

// step is a command, or (nil) a Compact.
type step struct{ c command.Command }

// steps answers a story's commands, with Compacts between.
func steps() []step {
	var l []step
	for i, c := range story() {
		l = append(l, step{c})
		if i%5 == 3 {
			l = append(l, step{})
		}
	}
	return append(l, step{})
}

// do has an engine do a step.
func (x step) do(e *Engine) api.Errno {
	if x.c == nil {
		return e.Compact()
	}
	return e.Do(x.c).Code
}

// behindAll answers the states from a new one on, behind more and more steps.
func behindAll(t *testing.T, c state.Config, l []step) []*state.State {
	t.Helper()
	s := come(t, c)
	states := []*state.State{s}
	for _, x := range l {
		s = s.Clone()
		if x.c != nil && s.Apply(x.c).Code != api.OK {
			t.Fatalf("%s is refused", command.Name(x.c))
		}
		states = append(states, s)
	}
	return states
}

// halted does steps on a new disk that goes down behind n deeds, and answers
// it, and how many were answered OK.
func halted(t *testing.T, l []step, n int) (*disk.Disk, int) {
	t.Helper()
	d := disk.New(1 << 16)
	d.Halt(n)
	e := opened(t, "P24.1", d, roomy(), come(t, roomy()))
	for i, x := range l {
		if wrong := x.do(e); wrong != api.OK {
			if wrong != api.ErrDown {
				t.Fatalf("P24.1: step %d behind %d deeds: %d", i, n, wrong)
			}
			return d, i
		}
	}
	return d, len(l)
}

// loose answers how many bytes of all files are loose.
func loose(d *disk.Disk) int {
	n := 0
	for _, name := range d.Names() {
		n += d.Loose(name)
	}
	return n
}

// P24.2, P24.3, P4: a crash at each deed of Do and Compact, at each byte of
// what is loose then, and again at each deed of the Open behind it: the state
// is that of the commands that were answered, or with the one that was broken
// off; it goes on from there.
func TestCrash(t *testing.T) {
	l := steps()
	states := behindAll(t, roomy(), l)
	found := map[bool]int{} // was the one that was broken off there?
	for n := 0; ; n++ {
		d, done := halted(t, l, n)
		if done == len(l) {
			break
		}
		for k := range loose(d) + 1 {
			crashed := d.Clone()
			crashed.Crash(k, k)
			for m := 0; ; m++ {
				x := crashed.Clone()
				x.Halt(m)
				if _, wrong := Open(x, roomy()); wrong == api.OK {
					break
				}
				x.Crash(k)
				in := goesOn(t, x, l, states, done)
				found[in]++
			}
			found[goesOn(t, crashed, l, states, done)]++
		}
	}
	if found[true] == 0 || found[false] == 0 {
		t.Errorf("P24.2: what was broken off was there, or not: %v", found)
	}
}

// goesOn opens a disk where so many steps were answered, does all others, and
// tells whether the one that was broken off was there.
func goesOn(t *testing.T, d *disk.Disk, l []step, states []*state.State, done int) bool {
	t.Helper()
	e, wrong := Open(d, roomy())
	if wrong != api.OK {
		t.Fatalf("P24.2: Open behind %d steps: %d", done, wrong)
	}
	in := l[done].c != nil && snap.Same(e.State(), states[done+1])
	at := done
	if in {
		at++
	}
	has(t, "P24.2", e, states[at])
	e = opened(t, "P24.3", d, roomy(), states[at])
	for _, x := range l[at:] {
		if wrong := x.do(e); wrong != api.OK {
			t.Fatalf("P24.2: a step behind a crash: %d", wrong)
		}
	}
	has(t, "P24.2", e, states[len(l)])
	return in
}

// P24.2: a log of which not all is synced, and a file that was to take its
// place, as Open finds them where nothing crashed: at whichever deed of it
// there is a crash, at any byte, what was synced is there; once it answered,
// all is.
func TestCrashOpen(t *testing.T) {
	l := []command.Command{clock(1), block(over(1, 0, 1, "a")), clock(4)}
	log := framed(records(l...)...)
	var ends []int // where each record ends
	for i := range l {
		ends = append(ends, len(framed(records(l[:i+1]...)...)))
	}
	wholly := func(n int) int { // how many records n bytes have
		i := 0
		for i < len(ends) && ends[i] <= n {
			i++
		}
		return i
	}
	for from := range len(log) + 1 {
		for _, text := range []string{log, log[:max(from, len(log)-2)]} {
			d := disk.New(1 << 16)
			isOK(t, d.Append("new", "abc"))
			isOK(t, d.Append("log", text[:from]))
			isOK(t, d.Sync("log"))
			isOK(t, d.Append("log", text[from:]))
			for n := range 4 {
				x := d.Clone()
				x.Halt(n)
				_, wrong := Open(x, roomy())
				stay := x.Loose("log")
				if wrong == api.OK {
					x.Crash()
					opened(t, "P24.2", x, roomy(), come(t, roomy(), l[:wholly(len(text))]...))
					continue
				}
				if wrong != api.ErrDown {
					t.Fatalf("P24.1: Open: %d", wrong)
				}
				for k := range stay + 1 {
					y := x.Clone()
					y.Crash(k, k)
					s, _ := y.Read("log")
					if wholly(len(s)) < wholly(from) {
						t.Fatalf("P24.2: %d of %d records are left", wholly(len(s)), wholly(from))
					}
					opened(t, "P24.2", y, roomy(), come(t, roomy(), l[:wholly(len(s))]...))
				}
			}
		}
	}
}
