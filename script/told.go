package script

import (
	"strconv"
	"strings"

	"coxswain/api"
	"coxswain/feed"
	"coxswain/state"
)

// What is told where there is nothing else to tell.
const (
	done   = "ok"
	closed = "closed" // nothing is open
	none   = "."      // no events
)

// code answers how an error is told.
func code(e api.Errno) string { return "code " + strconv.Itoa(int(e)) }

// ended answers how what has no result ended.
func ended(e api.Errno) string {
	if e != api.OK {
		return code(e)
	}
	return done
}

// result answers how a command ended.
func result(r state.Result) string {
	if r.Code != api.OK {
		return code(r.Code)
	}
	words := [...]string{
		state.In:       "in",
		state.Orphan:   "orphan",
		state.Held:     "held",
		state.Gone:     "gone",
		state.Accepted: "accepted",
		state.Waits:    "waits",
		state.Set:      "set",
	}
	if r.Moved {
		return words[r.Status] + " moved"
	}
	return words[r.Status]
}

// join makes a feed more, and answers its number.
func (w *World) join(most int) string {
	id, e := w.engine.Join(most)
	if e != api.OK {
		return code(e)
	}
	return strconv.Itoa(id)
}

// take answers the first n events of a feed, which wait no more.
func (w *World) take(id, n int) string {
	f, there := w.engine.Hub().Feed(id)
	if !there {
		return code(api.ErrNone)
	}
	signs := [...]string{feed.Revert: "-", feed.Apply: "+", feed.Lagged: "!"}
	var words []string
	for _, x := range f.Take(n) {
		words = append(words, signs[x.Kind]+strconv.Itoa(x.Height))
	}
	if len(words) == 0 {
		return none
	}
	return strings.Join(words, " ")
}

// head answers the height and the weight of the head, and what its blocks are
// called.
func (w *World) head() string {
	s := w.engine.State()
	words := []string{strconv.Itoa(s.Head().Height()), s.Paths().Weight(s.Head()).Text()}
	for _, b := range s.Head().Blocks() {
		words = append(words, w.called(b.ID))
	}
	return strings.Join(words, " ")
}

// look answers how much there is of all.
func (w *World) look() string {
	s := w.engine.State()
	var words []string
	for _, n := range []int{
		s.Clock(), s.Dag().Len(), len(s.Orphans()), len(s.Holds()),
		s.Chain().Next(), len(s.Chain().Waiting()), w.engine.Size(),
	} {
		words = append(words, strconv.Itoa(n))
	}
	return strings.Join(words, " ")
}
