package pool

import (
	"cmp"
	"math"
	"math/rand"
	"slices"
	"strconv"
	"strings"
	"testing"
	"unsafe"
)

// item is what is put into a pool.
type item struct {
	key   string
	rank  int
	thing int
}

// ahead holds items against each other as Keys has them.
func ahead(a, b item) int { return cmp.Or(cmp.Compare(a.rank, b.rank), strings.Compare(a.key, b.key)) }

// without answers the items without the one of that key, if there is one.
func without(l []item, key string) []item {
	return slices.DeleteFunc(slices.Clone(l), func(x item) bool { return x.key == key })
}

// with answers the items that wait, in the order of Keys, when x is put to
// those of l, and what goes for it, if anything does.
func with(l []item, most int, x item) ([]item, []item) {
	l = append(without(l, x.key), x)
	slices.SortFunc(l, ahead)
	n := min(len(l), most)
	return l[:n], l[n:]
}

// put puts an item, and tells whether just what is to go for it does.
func put(t *testing.T, promise string, p *Pool[int], x item, gone []item) {
	t.Helper()
	want := ""
	if len(gone) > 0 {
		want = gone[0].key
	}
	if key, goes := p.Put(x.key, x.rank, x.thing); key != want || goes != (len(gone) > 0) {
		t.Errorf("%s: Put of %v: %q, %v goes; want %v", promise, x, key, goes, gone)
	}
}

// waits tells whether just these items wait, which come in the order of Keys.
func waits(t *testing.T, promise string, p *Pool[int], want ...item) {
	t.Helper()
	var keys []string
	for _, x := range want {
		keys = append(keys, x.key)
		if v, there := p.Get(x.key); v != x.thing || !there || p.Rank(x.key) != x.rank {
			t.Errorf("%s: %q: %d, %v, of rank %d; want %v", promise, x.key, v, there, p.Rank(x.key), x)
		}
	}
	if l := p.Keys(); !slices.Equal(l, keys) || p.Len() != len(want) {
		t.Errorf("%s: %q, %d of them; want %q", promise, l, p.Len(), keys)
	}
	for _, most := range []int{math.MinInt, -1, 0, 1, 2, 3, math.MaxInt} {
		first(t, promise, p, most, want)
	}
}

// first tells whether First finds the first one of what waits that is of at
// most that rank.
func first(t *testing.T, promise string, p *Pool[int], most int, want []item) {
	t.Helper()
	x, low := item{}, false
	if i := slices.IndexFunc(want, func(x item) bool { return x.rank <= most }); i >= 0 {
		x, low = want[i], true
	}
	if key, is := p.First(most); key != x.key || is != low {
		t.Errorf("%s: First of %d: %q, %v; want %q, %v", promise, most, key, is, x.key, low)
	}
}

// absent tells that nothing waits by these keys.
func absent(t *testing.T, promise string, p *Pool[int], keys ...string) {
	t.Helper()
	for _, key := range keys {
		n := p.Len()
		if v, there := p.Get(key); v != 0 || there || p.Rank(key) != 0 {
			t.Errorf("%s: %q waits: %d, %v, of rank %d", promise, key, v, there, p.Rank(key))
		}
		if p.Drop(key) || p.Len() != n {
			t.Errorf("%s: %q is dropped", promise, key)
		}
	}
}

// orders hands over the items in every order.
func orders(l []item, do func(l []item)) {
	var from func(i int)
	from = func(i int) {
		if i == len(l) {
			do(slices.Clone(l))
			return
		}
		for j := i; j < len(l); j++ {
			l[i], l[j] = l[j], l[i]
			from(i + 1)
			l[i], l[j] = l[j], l[i]
		}
	}
	l = slices.Clone(l)
	from(0)
}

// many answers so many items of unlike keys, many of them of one rank.
func many(n int) []item {
	var l []item
	for i := range n {
		l = append(l, item{key: strconv.Itoa(i), rank: i*7%11 - 5, thing: i + 1})
	}
	return l
}

// P11.1: how many may wait counts as the nearest number that may be; a new pool
// has nothing.
func TestNew(t *testing.T) {
	for _, x := range []struct{ most, want int }{
		{math.MinInt, 0}, {-1, 0}, {0, 0}, {1, 1}, {2, 2}, {63, 63}, {64, 64}, {65, 64}, {math.MaxInt, 64},
	} {
		p := New[int](x.most)
		if p.Most() != x.want || p.Clone().Most() != x.want {
			t.Errorf("P11.1: at most %d: %d, want %d", x.most, p.Most(), x.want)
		}
		waits(t, "P11.1", p)
		absent(t, "P11.1", p, "", "a")
	}
}

// P11.1: just so many wait; of one more, the last one goes.
func TestMost(t *testing.T) {
	for _, most := range []int{-1, 0, 1, 2, 63, 64, 65} {
		p := New[int](most)
		var is, gone []item
		for _, x := range many(70) {
			is, gone = with(is, min(max(most, 0), 64), x)
			put(t, "P11.1", p, x, gone)
			waits(t, "P11.1", p, is...)
		}
		if n := min(max(most, 0), 64); p.Len() != n || p.Most() != n {
			t.Errorf("P11.1: of at most %d: %d of %d", most, p.Len(), p.Most())
		}
	}
}

// P11.1: the chapter's example.
func TestExample(t *testing.T) {
	p := New[int](1)
	put(t, "P11.1", p, item{"b", 2, 1}, nil)
	put(t, "P11.1", p, item{"a", 2, 2}, []item{{"b", 2, 1}})
	waits(t, "P11.1", p, item{"a", 2, 2})
	absent(t, "P11.1", p, "b")
}

// P11.1: a pool of none lets its own key go, whatever its rank.
func TestNone(t *testing.T) {
	for _, most := range []int{math.MinInt, -1, 0} {
		p := New[int](most)
		for _, x := range []item{{"a", 0, 1}, {"", 0, 2}, {"b", math.MinInt, 3}, {"a", math.MaxInt, 4}} {
			put(t, "P11.1", p, x, []item{x})
			waits(t, "P11.1", p)
			absent(t, "P11.1", p, x.key)
		}
	}
}

// P11.1: ranks of any number; of equal ones the keys tell, by their bytes; the
// empty key is one.
func TestOrder(t *testing.T) {
	want := []item{
		{"z", math.MinInt, 1}, {"y", math.MinInt + 1, 2}, {"x", -1, 3},
		{"", 0, 4}, {"\x00", 0, 5}, {"10", 0, 6}, {"9", 0, 7}, {"A", 0, 8}, {"a", 0, 9}, {"a\x00", 0, 10}, {"ä", 0, 11}, {"\xff", 0, 12},
		{"w", 1, 13}, {"v", math.MaxInt - 1, 14}, {"aa", math.MaxInt, 15}, {"ab", math.MaxInt, 16},
	}
	p := New[int](len(want))
	for i := range want {
		put(t, "P11.1", p, want[(i*7+3)%len(want)], nil)
	}
	for range 20 {
		waits(t, "P11.1", p, want...)
	}
	low := item{"low", math.MinInt, 0}
	for n, last := range want {
		p := New[int](n + 1)
		for _, x := range want[:n+1] {
			put(t, "P11.1", p, x, nil)
		}
		put(t, "P11.1", p, low, []item{last})
		waits(t, "P11.1", p, append([]item{low}, want[:n]...)...)
		put(t, "P11.1", p, last, []item{last})
	}
}

// P11.1: a key that waits already waits by its new rank, with its new thing,
// and none goes for it; at a full pool too.
func TestReplace(t *testing.T) {
	for _, most := range []int{3, 4, 64} {
		p := New[int](most)
		for i, key := range []string{"a", "b", "c"} {
			put(t, "P11.1", p, item{key, i, i}, nil)
		}
		put(t, "P11.1", p, item{"b", 7, 10}, nil)
		waits(t, "P11.1", p, item{"a", 0, 0}, item{"c", 2, 2}, item{"b", 7, 10})
		put(t, "P11.1", p, item{"b", math.MaxInt, 11}, nil)
		put(t, "P11.1", p, item{"c", -1, 12}, nil)
		put(t, "P11.1", p, item{"a", 0, 13}, nil)
		waits(t, "P11.1", p, item{"c", -1, 12}, item{"a", 0, 13}, item{"b", math.MaxInt, 11})
		put(t, "P11.1", p, item{"b", math.MinInt, 0}, nil)
		waits(t, "P11.1", p, item{"b", math.MinInt, 0}, item{"c", -1, 12}, item{"a", 0, 13})
	}
	p := New[int](1)
	put(t, "P11.1", p, item{"", 0, 1}, nil)
	put(t, "P11.1", p, item{"", 1, 2}, nil)
	waits(t, "P11.1", p, item{"", 1, 2})
}

// P11.1: what may be the last one when it comes goes itself.
func TestGoesItself(t *testing.T) {
	p := New[int](2)
	put(t, "P11.1", p, item{"b", 1, 1}, nil)
	put(t, "P11.1", p, item{"c", 1, 2}, nil)
	for _, x := range []item{{"d", 1, 3}, {"a", 2, 4}, {"", math.MaxInt, 5}, {"c\x00", 1, 6}} {
		put(t, "P11.1", p, x, []item{x})
		waits(t, "P11.1", p, item{"b", 1, 1}, item{"c", 1, 2})
		absent(t, "P11.1", p, x.key)
	}
}

// P11.1: what is dropped waits no more, and leaves room; it may come again.
func TestDrop(t *testing.T) {
	p := New[int](2)
	put(t, "P11.1", p, item{"a", 5, 1}, nil)
	put(t, "P11.1", p, item{"b", -5, 2}, nil)
	if !p.Drop("b") || p.Drop("b") {
		t.Error("P11.1: Drop of what waits, and of what doesn't")
	}
	absent(t, "P11.1", p, "b", "", "A", "a\x00")
	waits(t, "P11.1", p, item{"a", 5, 1})
	put(t, "P11.1", p, item{"c", 9, 3}, nil)
	waits(t, "P11.1", p, item{"a", 5, 1}, item{"c", 9, 3})
	put(t, "P11.1", p, item{"b", 1, 4}, []item{{"c", 9, 3}})
	if !p.Drop("a") || !p.Drop("b") {
		t.Error("P11.1: Drop of what waits")
	}
	waits(t, "P11.1", p)
}

// P11.1: First is of at most a rank, and none where none is low enough; the
// empty key may be the first one.
func TestFirst(t *testing.T) {
	p := New[int](9)
	put(t, "P11.1", p, item{"b", 4, 1}, nil)
	put(t, "P11.1", p, item{"a", 4, 2}, nil)
	put(t, "P11.1", p, item{"A", 6, 3}, nil)
	want := []item{{"a", 4, 2}, {"b", 4, 1}, {"A", 6, 3}}
	for _, most := range []int{math.MinInt, -4, 0, 3, 4, 5, 6, 7, math.MaxInt} {
		first(t, "P11.1", p, most, want)
	}
	put(t, "P11.1", p, item{"", 4, 4}, nil)
	if key, is := p.First(4); key != "" || !is {
		t.Errorf("P11.1: the empty key: %q, %v", key, is)
	}
	put(t, "P11.1", p, item{"z", math.MinInt, 5}, nil)
	if key, is := p.First(math.MinInt); key != "z" || !is {
		t.Errorf("P11.1: the least rank: %q, %v", key, is)
	}
}

// P11.1: a clone goes its own way, in both directions.
func TestClone(t *testing.T) {
	p := New[int](3)
	put(t, "P11.1", p, item{"a", 1, 1}, nil)
	put(t, "P11.1", p, item{"b", 2, 2}, nil)
	c := p.Clone()
	waits(t, "P11.1", c, item{"a", 1, 1}, item{"b", 2, 2})
	put(t, "P11.1", c, item{"a", 5, 9}, nil)
	put(t, "P11.1", c, item{"c", 0, 3}, nil)
	waits(t, "P11.1", p, item{"a", 1, 1}, item{"b", 2, 2})
	if !p.Drop("b") {
		t.Error("P11.1: Drop of what waits")
	}
	put(t, "P11.1", p, item{"d", 7, 4}, nil)
	waits(t, "P11.1", c, item{"c", 0, 3}, item{"b", 2, 2}, item{"a", 5, 9})
	waits(t, "P11.1", p, item{"a", 1, 1}, item{"d", 7, 4})
	put(t, "P11.1", c, item{"d", 3, 5}, []item{{"a", 5, 9}})
	waits(t, "P11.1", c.Clone(), item{"c", 0, 3}, item{"b", 2, 2}, item{"d", 3, 5})
	waits(t, "P11.1", New[int](-1).Clone())
}

// P11.1: things of any type; a clone's are the same.
func TestThings(t *testing.T) {
	x, y := 1, 1
	pointers := New[*int](2)
	pointers.Put("x", 0, &x)
	pointers.Put("y", 0, &y)
	pointers.Put("nil", 1, nil)
	pointers.Put("nil", -1, nil)
	c := pointers.Clone()
	if v, there := c.Get("x"); v != &x || !there {
		t.Errorf("P11.1: a pointer: %p, %v", v, there)
	}
	if v, there := c.Get("nil"); v != nil || !there {
		t.Errorf("P11.1: a nil: %p, %v", v, there)
	}
	if v, there := c.Get("y"); v != nil || there {
		t.Errorf("P11.1: what is gone: %p, %v", v, there)
	}
	texts := New[[]string](1)
	texts.Put("", 0, []string{"a", "b"})
	if v, there := texts.Get(""); !slices.Equal(v, []string{"a", "b"}) || !there {
		t.Errorf("P11.1: texts: %q, %v", v, there)
	}
	if v, there := texts.Get("a"); v != nil || there {
		t.Errorf("P11.1: no texts: %q, %v", v, there)
	}
	items := New[item](1)
	items.Put("b", 2, item{"b", 2, 2})
	if key, goes := items.Put("a", 3, item{"a", 3, 3}); key != "a" || !goes {
		t.Errorf("P11.1: %q, %v goes", key, goes)
	}
	if v, there := items.Get("b"); v != (item{"b", 2, 2}) || !there {
		t.Errorf("P11.1: an item: %v, %v", v, there)
	}
	pools := New[*Pool[int]](1)
	pools.Put("a", 0, New[int](7))
	if v, there := pools.Get("a"); !there || v.Most() != 7 {
		t.Errorf("P11.1: a pool: %v, %v", v, there)
	}
}

// P11.2: as many as may be, and fewer, in every order: none goes, and the same
// wait.
func TestEveryOrder(t *testing.T) {
	l := []item{{"b", 1, 1}, {"a", 1, 2}, {"", 2, 3}, {"c", math.MinInt, 4}, {"d", math.MaxInt, 5}}
	for n := range len(l) + 1 {
		want := slices.SortedFunc(slices.Values(l[:n]), ahead)
		for _, most := range []int{n, n + 1, 64, 65} {
			orders(l[:n], func(l []item) {
				p := New[int](most)
				for _, x := range l {
					put(t, "P11.2", p, x, nil)
				}
				waits(t, "P11.2", p, want...)
			})
		}
	}
}

// P11.3: more than may be, each once, in every order: those of the least ranks,
// then keys, wait.
func TestMoreInEveryOrder(t *testing.T) {
	l := []item{{"b", 1, 1}, {"a", 1, 2}, {"", 1, 3}, {"c", math.MinInt, 4}, {"aa", math.MaxInt, 5}, {"d", 0, 6}}
	for n := 1; n <= len(l); n++ {
		want := slices.SortedFunc(slices.Values(l[:n]), ahead)
		for most := range n {
			orders(l[:n], func(l []item) {
				p := New[int](most)
				for _, x := range l {
					p.Put(x.key, x.rank, x.thing)
				}
				waits(t, "P11.3", p, want[:most]...)
			})
		}
	}
}

// P11.2, P11.3: the same of as many as a pool ever has, and of more, in some
// orders.
func TestManyInSomeOrders(t *testing.T) {
	r := rand.New(rand.NewSource(11))
	for _, n := range []int{63, 64, 65, 100} {
		l := many(n)
		want := slices.SortedFunc(slices.Values(l), ahead)
		for _, most := range []int{20, 63, 64, 65} {
			may := min(most, n, 64)
			for range 20 {
				r.Shuffle(n, func(i, j int) { l[i], l[j] = l[j], l[i] })
				p := New[int](most)
				gone := 0
				for _, x := range l {
					if _, goes := p.Put(x.key, x.rank, x.thing); goes {
						gone++
					}
				}
				waits(t, "P11.3", p, want[:may]...)
				if gone != n-may {
					t.Errorf("P11.2: of %d of at most %d, %d went", n, most, gone)
				}
			}
		}
	}
}

// P11.1: what is handed in isn't kept; answers are new memory.
func TestMemory(t *testing.T) {
	p := New[int](2)
	b := []byte("key")
	p.Put(unsafe.String(&b[0], 3), 1, 1)
	p.Put(unsafe.String(&b[0], 3), 2, 2)
	copy(b, "xyz")
	waits(t, "P11.1", p, item{"key", 2, 2})
	p.Put("other", 3, 3)
	one, two := p.Keys(), p.Keys()
	c := p.Clone().Keys()
	low, _ := p.First(2)
	for i, s := range []string{two[0], c[0], low} {
		if unsafe.StringData(one[0]) == unsafe.StringData(s) {
			t.Errorf("P11.1: answers share memory: %d", i)
		}
	}
	one[0], one[1] = "changed", "too"
	waits(t, "P11.1", p, item{"key", 2, 2}, item{"other", 3, 3})
	copy(b, "zzz")
	gone, _ := p.Put(unsafe.String(&b[0], 3), 9, 4)
	copy(b, "xyz")
	if gone != "zzz" {
		t.Errorf("P11.1: what goes is what was handed in: %q", gone)
	}
}

// P11.1: of any calls, and of clones, what plain items tell.
func TestAnyCalls(t *testing.T) {
	r := rand.New(rand.NewSource(12))
	ranks := []int{math.MinInt, -1, 0, 0, 1, 2, 3, math.MaxInt}
	for range 200 {
		most := r.Intn(8)
		p := New[int](most)
		var is, gone []item
		for i := range 100 {
			key := strings.Repeat("k", r.Intn(12))
			switch r.Intn(6) {
			case 0:
				if there := p.Drop(key); there != (len(without(is, key)) < len(is)) {
					t.Fatalf("P11.1: Drop of %q: %v, of %v", key, there, is)
				}
				is = without(is, key)
			case 1:
				old := p
				p = p.Clone()
				old.Put("old", math.MinInt, 0)
				old.Drop(key)
			default:
				x := item{key, ranks[r.Intn(len(ranks))], i}
				is, gone = with(is, most, x)
				put(t, "P11.1", p, x, gone)
			}
			waits(t, "P11.1", p, is...)
			if t.Failed() {
				return
			}
		}
	}
}
