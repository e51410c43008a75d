package mark

import (
	"math"
	"math/rand"
	"reflect"
	"slices"
	"testing"

	"coxswain/api"
	"coxswain/dag"
	"coxswain/header"
	"coxswain/path"
	"coxswain/tipset"
)

// grow makes a block come in over the tipset of its parents, and answers its
// name.
func grow(t *testing.T, d *dag.Dag, height, miner int, parents ...api.ID) api.ID {
	t.Helper()
	h := header.Header{Height: height, Miner: miner, Ticket: "t", Wins: 1, Power: 2}
	h.Parents, _ = header.Names(header.Key(parents...))
	if e := d.Add(h); e != api.OK {
		t.Fatalf("Add of %v: %d", h, e)
	}
	return h.ID()
}

// of answers the tipset of these blocks.
func of(t *testing.T, d *dag.Dag, l ...api.ID) tipset.Tipset {
	t.Helper()
	x, e := d.Tipset(header.Key(l...))
	if e != api.OK {
		t.Fatalf("Tipset of %x: %d", l, e)
	}
	return x
}

// tree is a dag of several ways:
//
//	root - a (1) - b (2) - c (5) - d (9)
//	             - s (2)   where s, and bs, which is both, stand beside b
//	     - y (1) - z (9)
type tree struct {
	p                       *path.Paths
	root, a, b, s, bs, c, d tipset.Tipset
	y, z                    tipset.Tipset
	all                     []tipset.Tipset
	behind                  map[string][]tipset.Tipset
	none                    tipset.Tipset
}

// trees answers it.
func trees(t *testing.T) tree {
	t.Helper()
	d := dag.New()
	a := grow(t, d, 1, 1, header.Root())
	b, s := grow(t, d, 2, 1, a), grow(t, d, 2, 2, a)
	c := grow(t, d, 5, 1, b)
	top := grow(t, d, 9, 1, c)
	y := grow(t, d, 1, 2, header.Root())
	z := grow(t, d, 9, 2, y)
	x := tree{
		p: path.New(d, 3), root: tipset.Genesis(), a: of(t, d, a), b: of(t, d, b), s: of(t, d, s), bs: of(t, d, b, s),
		c: of(t, d, c), d: of(t, d, top), y: of(t, d, y), z: of(t, d, z),
	}
	x.all = []tipset.Tipset{x.root, x.a, x.b, x.s, x.bs, x.c, x.d, x.y, x.z}
	x.behind = map[string][]tipset.Tipset{
		x.root.Key(): {x.root}, x.a.Key(): {x.a, x.root}, x.b.Key(): {x.b, x.a, x.root}, x.s.Key(): {x.s, x.a, x.root},
		x.bs.Key(): {x.bs, x.a, x.root}, x.c.Key(): {x.c, x.b, x.a, x.root}, x.d.Key(): {x.d, x.c, x.b, x.a, x.root},
		x.y.Key(): {x.y, x.root}, x.z.Key(): {x.z, x.y, x.root},
	}
	return x
}

// is tells whether both are the same tipset, in all that they have.
func is(a, b tipset.Tipset) bool { return reflect.DeepEqual(a, b) }

// descends tells by plain means whether from is t, or behind it.
func (x tree) descends(t, from tipset.Tipset) bool {
	return slices.ContainsFunc(x.behind[t.Key()], func(y tipset.Tipset) bool { return is(y, from) })
}

// together tells by plain means whether both are on one chain.
func (x tree) together(a, b tipset.Tipset) bool { return x.descends(a, b) || x.descends(b, a) }

// P18.1: of a zero tipset, of one behind what is final, of itself, of one ahead
// of it, of one on another chain.
func TestMay(t *testing.T) {
	x := trees(t)
	for i, c := range []struct {
		final, t tipset.Tipset
		want     api.Errno
	}{
		{x.b, x.none, api.ErrNone}, {x.root, x.none, api.ErrNone},
		{x.b, x.a, api.OK}, {x.b, x.root, api.OK}, {x.d, x.a, api.OK},
		{x.b, x.b, api.OK}, {x.root, x.root, api.OK},
		{x.b, x.c, api.OK}, {x.b, x.d, api.OK}, {x.root, x.z, api.OK},
		{x.b, x.s, api.ErrConflict}, {x.b, x.bs, api.ErrConflict}, {x.bs, x.b, api.ErrConflict}, {x.bs, x.c, api.ErrConflict},
		{x.b, x.y, api.ErrConflict}, {x.a, x.y, api.ErrConflict}, {x.d, x.z, api.ErrConflict}, {x.z, x.a, api.ErrConflict},
	} {
		if e := May(x.p, c.final, c.t); e != c.want {
			t.Errorf("P18.1: %d: May: %d, want %d", i, e, c.want)
		}
	}
	for _, final := range x.all {
		for _, y := range x.all {
			want := api.ErrConflict
			if x.together(final, y) {
				want = api.OK
			}
			if e := May(x.p, final, y); e != want {
				t.Errorf("P18.1: May of heights %d, %d: %d, want %d", final.Height(), y.Height(), e, want)
			}
		}
		if e := May(x.p, final, tipset.Tipset{}); e != api.ErrNone {
			t.Errorf("P18.1: May of a zero tipset: %d", e)
		}
	}
}

// P18.1, P18.2: with no mark what is final, with one the one that descends from
// the other one; the chapter's example.
func TestFloor(t *testing.T) {
	x := trees(t)
	for i, c := range []struct{ final, mark, want tipset.Tipset }{
		{x.root, x.none, x.root}, {x.c, x.none, x.c}, {x.bs, x.none, x.bs},
		{x.c, x.a, x.c}, {x.c, x.b, x.c}, {x.c, x.root, x.c}, {x.bs, x.a, x.bs},
		{x.a, x.c, x.c}, {x.b, x.c, x.c}, {x.root, x.c, x.c}, {x.a, x.bs, x.bs}, {x.root, x.z, x.z},
		{x.c, x.c, x.c}, {x.root, x.root, x.root}, {x.bs, x.bs, x.bs},
	} {
		if got := Floor(x.p, c.final, c.mark); !is(got, c.want) {
			t.Errorf("P18.1: %d: Floor: height %d, want %d", i, got.Height(), c.want.Height())
		}
	}
	for _, final := range x.all {
		if got := Floor(x.p, final, tipset.Tipset{}); !is(got, final) {
			t.Errorf("P18.1: Floor with no mark: height %d", got.Height())
		}
		for _, mark := range x.all {
			if !x.together(final, mark) {
				continue
			}
			got := Floor(x.p, final, mark)
			if !x.descends(got, final) || !x.descends(got, mark) || !is(got, final) && !is(got, mark) {
				t.Errorf("P18.2: Floor of heights %d, %d: %d", final.Height(), mark.Height(), got.Height())
			}
		}
	}
}

// P18.1: what descends from the floor: it itself, what is ahead of it; not what
// is behind it, or beside it.
func TestAbove(t *testing.T) {
	x := trees(t)
	for i, c := range []struct {
		floor, t tipset.Tipset
		want     bool
	}{
		{x.b, x.b, true}, {x.root, x.root, true}, {x.bs, x.bs, true},
		{x.b, x.a, false}, {x.b, x.root, false}, {x.d, x.c, false},
		{x.b, x.c, true}, {x.b, x.d, true}, {x.root, x.z, true}, {x.a, x.bs, true},
		{x.b, x.s, false}, {x.b, x.bs, false}, {x.bs, x.b, false}, {x.bs, x.c, false}, {x.a, x.z, false}, {x.y, x.d, false},
	} {
		if got := Above(x.p, c.floor, c.t); got != c.want {
			t.Errorf("P18.1: %d: Above: %t", i, got)
		}
	}
	for _, floor := range x.all {
		for _, y := range x.all {
			if got := Above(x.p, floor, y); got != x.descends(y, floor) {
				t.Errorf("P18.1: Above of heights %d, %d: %t", floor.Height(), y.Height(), got)
			}
		}
	}
}

// P18.1: with no mark each tipset fits; with one those that are on one chain
// with it.
func TestFits(t *testing.T) {
	x := trees(t)
	for i, c := range []struct {
		mark, t tipset.Tipset
		want    bool
	}{
		{x.b, x.b, true}, {x.b, x.a, true}, {x.b, x.root, true}, {x.b, x.c, true}, {x.b, x.d, true}, {x.root, x.z, true},
		{x.b, x.s, false}, {x.b, x.bs, false}, {x.bs, x.c, false}, {x.b, x.y, false}, {x.d, x.z, false}, {x.y, x.a, false},
	} {
		if got := Fits(x.p, c.mark, c.t); got != c.want {
			t.Errorf("P18.1: %d: Fits: %t", i, got)
		}
	}
	for _, y := range x.all {
		if !Fits(x.p, tipset.Tipset{}, y) {
			t.Errorf("P18.1: height %d doesn't fit no mark", y.Height())
		}
		for _, mark := range x.all {
			if got := Fits(x.p, mark, y); got != x.together(mark, y) {
				t.Errorf("P18.1: Fits of heights %d, %d: %t", mark.Height(), y.Height(), got)
			}
		}
	}
}

// alike tells whether both points are the same.
func alike(a, b Point) bool { return is(a.Final, b.Final) && is(a.Mark, b.Mark) }

// P18.1, P18.2: to what final may move, and that the point is as it is beside a
// false.
func TestMove(t *testing.T) {
	x := trees(t)
	for i, c := range []struct {
		at    Point
		final tipset.Tipset
		want  bool
	}{
		{Point{x.b, x.none}, x.c, true}, {Point{x.b, x.none}, x.d, true}, {Point{x.root, x.none}, x.z, true}, {Point{x.a, x.none}, x.bs, true},
		{Point{x.b, x.none}, x.b, true}, {Point{x.b, x.b}, x.b, true}, {Point{x.b, x.a}, x.b, true}, {Point{x.b, x.c}, x.b, true},
		{Point{x.b, x.none}, x.a, false}, {Point{x.b, x.none}, x.root, false}, {Point{x.b, x.none}, x.bs, false}, {Point{x.b, x.none}, x.z, false},
		{Point{x.b, x.a}, x.a, false}, {Point{x.c, x.d}, x.b, false},
		{Point{x.a, x.c}, x.b, true}, {Point{x.a, x.c}, x.c, true}, {Point{x.a, x.c}, x.d, true},
		{Point{x.a, x.c}, x.s, false}, {Point{x.a, x.c}, x.bs, false}, {Point{x.root, x.c}, x.y, false}, {Point{x.root, x.z}, x.d, false},
		{Point{x.a, x.root}, x.s, true}, {Point{x.a, x.a}, x.s, true},
	} {
		want := c.at
		if c.want {
			want.Final = c.final
		}
		if got, ok := c.at.Move(x.p, c.final); ok != c.want || !alike(got, want) {
			t.Errorf("P18.1: %d: Move: %t, heights %d, %d", i, ok, got.Final.Height(), got.Mark.Height())
		}
	}
}

// P18.1, P18.2: what may be set as a mark; a zero one takes the mark away;
// beside an error the point is as it is.
func TestSet(t *testing.T) {
	x := trees(t)
	for i, c := range []struct {
		at   Point
		mark tipset.Tipset
		want api.Errno
	}{
		{Point{x.b, x.none}, x.none, api.OK}, {Point{x.b, x.c}, x.none, api.OK}, {Point{x.b, x.a}, x.none, api.OK},
		{Point{x.b, x.none}, x.c, api.OK}, {Point{x.b, x.d}, x.c, api.OK}, {Point{x.b, x.c}, x.c, api.OK},
		{Point{x.b, x.c}, x.a, api.OK}, {Point{x.b, x.none}, x.root, api.OK}, {Point{x.b, x.a}, x.b, api.OK},
		{Point{x.a, x.c}, x.bs, api.OK}, // another chain than the mark's alone
		{Point{x.root, x.d}, x.z, api.OK},
		{Point{x.b, x.none}, x.s, api.ErrConflict}, {Point{x.b, x.none}, x.bs, api.ErrConflict}, {Point{x.b, x.c}, x.z, api.ErrConflict},
		{Point{x.b, x.a}, x.y, api.ErrConflict}, {Point{x.bs, x.a}, x.c, api.ErrConflict},
	} {
		want := c.at
		if c.want == api.OK {
			want.Mark = c.mark
		}
		if got, e := c.at.Set(x.p, c.mark); e != c.want || !alike(got, want) {
			t.Errorf("P18.1: %d: Set: %d, heights %d, %d", i, e, got.Final.Height(), got.Mark.Height())
		}
	}
}

// P18.2: whatever is moved and set: Final and Mark are on one chain, the floor
// descends from both, Final never goes back; each answer is what plain means
// tell.
func TestAnyCalls(t *testing.T) {
	x := trees(t)
	moved, stayed, set, refused := 0, 0, 0, 0
	for seed := range int64(300) {
		r := rand.New(rand.NewSource(seed))
		at := Point{Final: x.root}
		for range 40 {
			y := append(x.all, x.none)[r.Intn(len(x.all)+1)]
			ahead := at
			var ok bool
			var e api.Errno
			if r.Intn(3) == 0 && !y.Zero() {
				at, ok = at.Move(x.p, y)
				want := x.descends(y, ahead.Final) && (ahead.Mark.Zero() || x.together(y, ahead.Mark))
				if ok != want || ok && !alike(at, Point{y, ahead.Mark}) || !ok && !alike(at, ahead) {
					t.Fatalf("P18.2: Move: %t, want %t", ok, want)
				}
				if ok {
					moved++
				} else {
					stayed++
				}
			} else {
				at, e = at.Set(x.p, y)
				want := y.Zero() || x.together(y, ahead.Final)
				if (e == api.OK) != want || want && !alike(at, Point{ahead.Final, y}) || !want && (e != api.ErrConflict || !alike(at, ahead)) {
					t.Fatalf("P18.2: Set: %d, want %t", e, want)
				}
				if e == api.OK {
					set++
				} else {
					refused++
				}
			}
			holds(t, x, ahead, at)
		}
	}
	if min(moved, stayed, set, refused) < 300 {
		t.Errorf("%d, %d, %d, %d", moved, stayed, set, refused)
	}
}

// holds tells where a point doesn't hold what is promised of it, behind another
// one.
func holds(t *testing.T, x tree, ahead, at Point) {
	t.Helper()
	if !x.descends(at.Final, ahead.Final) {
		t.Fatalf("P18.2: Final goes back from height %d to %d", ahead.Final.Height(), at.Final.Height())
	}
	if !at.Mark.Zero() && !x.together(at.Final, at.Mark) {
		t.Fatalf("P18.2: heights %d, %d aren't on one chain", at.Final.Height(), at.Mark.Height())
	}
	floor := Floor(x.p, at.Final, at.Mark)
	if !x.descends(floor, at.Final) || !at.Mark.Zero() && !x.descends(floor, at.Mark) {
		t.Fatalf("P18.2: the floor, of height %d, doesn't descend from both", floor.Height())
	}
}

// P18.1: no call changes the point, or what is handed in; points go their own
// ways.
func TestOwnWays(t *testing.T) {
	x := trees(t)
	at := Point{Final: x.a, Mark: x.b}
	one, ok := at.Move(x.p, x.b)
	two, e := at.Set(x.p, x.s)
	if !ok || e != api.OK || !alike(at, Point{x.a, x.b}) || !alike(one, Point{x.b, x.b}) || !alike(two, Point{x.a, x.s}) {
		t.Errorf("P18.1: %t, %d", ok, e)
	}
	floor := Floor(x.p, x.a, x.b)
	floor.Blocks()[0].Header.Parents[0] = api.ID{9}
	one.Final.Blocks()[0].ID = api.ID{9}
	two.Mark = tipset.Tipset{}
	if fresh := trees(t); !reflect.DeepEqual(fresh.all, x.all) || !alike(at, Point{x.a, x.b}) {
		t.Error("P18.1: something is changed")
	}
}

// P18.1: a dag that grows behind what was answered.
func TestGrows(t *testing.T) {
	d := dag.New()
	p := path.New(d, 1)
	at := Point{Final: tipset.Genesis()}
	a := grow(t, d, 1, 1, header.Root())
	at, e := at.Set(p, of(t, d, a))
	b, s := grow(t, d, 2, 1, a), grow(t, d, 2, 2, header.Root())
	if e != api.OK || !Above(p, Floor(p, at.Final, at.Mark), of(t, d, b)) || Above(p, Floor(p, at.Final, at.Mark), of(t, d, s)) {
		t.Errorf("P18.1: %d, or what comes later", e)
	}
	if _, ok := at.Move(p, of(t, d, s)); ok {
		t.Error("P18.1: Move to what came later, on another chain")
	}
	if at, ok := at.Move(p, of(t, d, b)); !ok || at.Final.Height() != 2 || at.Mark.Height() != 1 {
		t.Error("P18.1: Move to what came later")
	}
}

// P1: also of tipsets that aren't the dag's, and of zero ones, each call ends; a
// point stays as it is beside a false, or an error.
func TestAnyTipsets(t *testing.T) {
	x := trees(t)
	odd := func(h header.Header) tipset.Tipset {
		y, _ := tipset.New(tipset.Make(h))
		return y
	}
	all := append([]tipset.Tipset{
		{}, odd(header.Header{}), odd(header.Header{Height: -5, Wins: -5}), odd(header.Header{Height: math.MaxInt, Parents: make([]api.ID, 9)}),
		odd(header.Header{Height: 3, Power: math.MaxUint64, Parents: []api.ID{{7}}}), odd(header.Header{Parents: []api.ID{x.d.Blocks()[0].ID}}),
	}, x.all...)
	for _, a := range all {
		for _, b := range all {
			May(x.p, a, b)
			Floor(x.p, a, b)
			Above(x.p, a, b)
			Fits(x.p, a, b)
			for _, at := range []Point{{a, b}, {x.b, a}, {a, x.none}} {
				if got, ok := at.Move(x.p, b); !ok && !alike(got, at) {
					t.Error("P1: Move: another point beside a false")
				}
				if got, e := at.Set(x.p, b); e != api.OK && !alike(got, at) || b.Zero() != got.Mark.Zero() && e == api.OK {
					t.Errorf("P1: Set: %d", e)
				}
			}
		}
	}
	for _, a := range all[1:6] {
		if e := May(x.p, x.b, a); e != api.ErrConflict {
			t.Errorf("P1: May of one that isn't the dag's: %d", e)
		}
	}
}
