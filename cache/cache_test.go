package cache

import (
	"math"
	"math/rand"
	"slices"
	"strconv"
	"strings"
	"testing"
	"unsafe"
)

// keeps tells whether a cache keeps just what is by these keys, the one used
// last first.
func keeps[V any](t *testing.T, promise string, c *Cache[V], keys ...string) {
	t.Helper()
	if l := c.Keys(); !slices.Equal(l, keys) || c.Len() != len(keys) {
		t.Errorf("%s: keeps %q, %d of them; want %q", promise, l, c.Len(), keys)
	}
}

// hits tells how many Gets found something, and how many there were.
func hits[V any](t *testing.T, c *Cache[V], found, asked int) {
	t.Helper()
	if f, a := c.Hits(); f != found || a != asked {
		t.Errorf("P12.1: %d found of %d, want %d of %d", f, a, found, asked)
	}
}

// get asks for what is to be kept by a key.
func get[V comparable](t *testing.T, promise string, c *Cache[V], key string, want V) {
	t.Helper()
	if v, there := c.Get(key); v != want || !there {
		t.Errorf("%s: Get of %q: %v, %v; want %v", promise, key, v, there, want)
	}
}

// none asks for what isn't to be kept.
func none[V comparable](t *testing.T, promise string, c *Cache[V], key string) {
	t.Helper()
	var zero V
	if v, there := c.Get(key); v != zero || there {
		t.Errorf("%s: Get of %q: %v, %v; want nothing", promise, key, v, there)
	}
}

// never is a make that may not be called.
func never[V any](t *testing.T) func(key string) V {
	return func(key string) V {
		t.Errorf("P12.1: make is asked for %q, which is kept", key)
		var zero V
		return zero
	}
}

// counted answers a make that answers v, and the keys that it was called with.
func counted[V any](v V) (func(key string) V, *[]string) {
	var asked []string
	return func(key string) V {
		asked = append(asked, key)
		return v
	}, &asked
}

// P12.1: how many things there may be counts as the nearest number that may be;
// of one more the one used the longest ago goes; a new cache has nothing.
func TestNew(t *testing.T) {
	for _, x := range []struct{ most, want int }{
		{math.MinInt, 1}, {-1, 1}, {0, 1}, {1, 1}, {2, 2}, {1023, 1023}, {1024, 1024}, {1025, 1024}, {math.MaxInt, 1024},
	} {
		c := New[int](x.most)
		keeps(t, "P12.1", c)
		hits(t, c, 0, 0)
		for i := range x.want {
			c.Put(strconv.Itoa(i), i)
		}
		if l := c.Keys(); c.Len() != x.want || l[x.want-1] != "0" || l[0] != strconv.Itoa(x.want-1) {
			t.Errorf("P12.1: of at most %d: %d", x.most, c.Len())
		}
		c.Put("one more", -1)
		if l := c.Keys(); c.Len() != x.want || slices.Contains(l, "0") || l[0] != "one more" {
			t.Errorf("P12.1: of at most %d, and one more: %d", x.most, c.Len())
		}
		none(t, "P12.1", c, "0")
		get(t, "P12.1", c, "one more", -1)
		hits(t, c, 1, 2)
	}
}

// P12.1: the chapter's example.
func TestExample(t *testing.T) {
	c := New[int](2)
	c.Put("a", 1)
	c.Put("b", 2)
	get(t, "P12.1", c, "a", 1)
	c.Put("c", 3)
	keeps(t, "P12.1", c, "c", "a")
	none(t, "P12.1", c, "b")
}

// P12.1: a Get that finds something makes it the one used last; one that finds
// nothing changes but what is counted; the empty key is one.
func TestGet(t *testing.T) {
	c := New[string](4)
	none(t, "P12.1", c, "")
	hits(t, c, 0, 1)
	for _, key := range []string{"", "b", "\x00", "b\x00"} {
		c.Put(key, key+"!")
	}
	hits(t, c, 0, 1)
	keeps(t, "P12.1", c, "b\x00", "\x00", "b", "")
	get(t, "P12.1", c, "", "!")
	keeps(t, "P12.1", c, "", "b\x00", "\x00", "b")
	get(t, "P12.1", c, "", "!")
	get(t, "P12.1", c, "\x00", "\x00!")
	keeps(t, "P12.1", c, "\x00", "", "b\x00", "b")
	hits(t, c, 3, 4)
	none(t, "P12.1", c, "B")
	none(t, "P12.1", c, "b\x00\x00")
	keeps(t, "P12.1", c, "\x00", "", "b\x00", "b")
	hits(t, c, 3, 6)
	get(t, "P12.1", c, "b", "b!")
	keeps(t, "P12.1", c, "b", "\x00", "", "b\x00")
}

// P12.1: a Put of what is kept already replaces it, and makes it the one used
// last; nothing goes for it.
func TestPutAgain(t *testing.T) {
	c := New[int](3)
	for i, key := range []string{"a", "b", "c"} {
		c.Put(key, i)
	}
	c.Put("a", 10)
	keeps(t, "P12.1", c, "a", "c", "b")
	c.Put("c", 11)
	c.Put("c", 12)
	keeps(t, "P12.1", c, "c", "a", "b")
	hits(t, c, 0, 0)
	c.Put("d", 13)
	keeps(t, "P12.1", c, "d", "c", "a")
	get(t, "P12.1", c, "a", 10)
	get(t, "P12.1", c, "c", 12)
	one := New[int](1)
	one.Put("", 1)
	one.Put("", 2)
	keeps(t, "P12.1", one, "")
	get(t, "P12.1", one, "", 2)
}

// P12.1: neither Keys nor Len nor Hits use what is kept.
func TestLookedAt(t *testing.T) {
	c := New[int](2)
	c.Put("a", 1)
	c.Put("b", 2)
	for range 5 {
		keeps(t, "P12.1", c, "b", "a")
		hits(t, c, 0, 0)
	}
	c.Put("c", 3)
	keeps(t, "P12.1", c, "c", "b")
}

// P12.1: make is called once where nothing is kept, with the key, and never
// where something is; Of counts as a Get.
func TestOf(t *testing.T) {
	c := New[int](2)
	make, asked := counted(7)
	if v := c.Of("a", make); v != 7 || !slices.Equal(*asked, []string{"a"}) {
		t.Errorf("P12.1: Of: %d, asked for %q", v, *asked)
	}
	hits(t, c, 0, 1)
	if v := c.Of("a", never[int](t)); v != 7 {
		t.Errorf("P12.1: Of what is kept: %d", v)
	}
	hits(t, c, 1, 2)
	get(t, "P12.1", c, "a", 7)
	c.Put("b", 8)
	if v := c.Of("a", never[int](t)); v != 7 {
		t.Errorf("P12.1: Of what is kept: %d", v)
	}
	keeps(t, "P12.1", c, "a", "b")
	c.Of("", make)
	keeps(t, "P12.1", c, "", "a")
	c.Of("b", make)
	keeps(t, "P12.1", c, "b", "")
	if !slices.Equal(*asked, []string{"a", "", "b"}) {
		t.Errorf("P12.1: make is asked for %q", *asked)
	}
	hits(t, c, 3, 6)
}

// P12.1: what is kept may be zero: it is kept none the less.
func TestZero(t *testing.T) {
	c := New[*int](3)
	c.Put("a", nil)
	make, asked := counted[*int](nil)
	if c.Of("a", never[*int](t)) != nil || c.Of("b", make) != nil || c.Of("b", make) != nil || len(*asked) != 1 {
		t.Errorf("P12.1: make is asked for %q", *asked)
	}
	get(t, "P12.1", c, "a", nil)
	get(t, "P12.1", c, "b", nil)
	hits(t, c, 4, 5)
}

// P12.1: a make that asks for its own key finds nothing yet; what it answers
// itself is kept in the end, and answered.
func TestMakeAsksSame(t *testing.T) {
	for _, most := range []int{1, 2, 1024} {
		c := New[int](most)
		v := c.Of("a", func(key string) int {
			none(t, "P12.1", c, key)
			inner, asked := counted(1)
			if c.Of(key, inner) != 1 || len(*asked) != 1 || c.Of(key, never[int](t)) != 1 {
				t.Error("P12.1: what make asks for its own key")
			}
			c.Put(key, 2)
			get(t, "P12.1", c, key, 2)
			return 3
		})
		if v != 3 {
			t.Errorf("P12.1: Of: %d", v)
		}
		keeps(t, "P12.1", c, "a")
		get(t, "P12.1", c, "a", 3)
		hits(t, c, 3, 6)
	}
}

// P12.1: a make that asks for another key has that kept, too, and used ahead of
// its own.
func TestMakeAsksOther(t *testing.T) {
	c := New[int](3)
	c.Put("old", 0)
	v := c.Of("a", func(string) int {
		return 1 + c.Of("b", func(string) int { return 1 + c.Of("old", never[int](t)) })
	})
	if v != 2 {
		t.Errorf("P12.1: Of: %d", v)
	}
	keeps(t, "P12.1", c, "a", "b", "old")
	hits(t, c, 1, 3)
	get(t, "P12.1", c, "b", 1)
}

// P12.1: a make that asks so often that things go meanwhile: the last ones stay,
// its own key among them.
func TestMakeAsksOften(t *testing.T) {
	c := New[int](3)
	c.Put("x", 1)
	c.Put("y", 2)
	v := c.Of("a", func(string) int {
		sum := 0
		for i := range 10 {
			sum += c.Of(strconv.Itoa(i), func(string) int { return i })
			get(t, "P12.1", c, strconv.Itoa(i), i)
		}
		none(t, "P12.1", c, "x")
		none(t, "P12.1", c, "y")
		keeps(t, "P12.1", c, "9", "8", "7")
		return sum
	})
	if v != 45 {
		t.Errorf("P12.1: Of: %d", v)
	}
	keeps(t, "P12.1", c, "a", "9", "8")
	hits(t, c, 10, 23)
	one := New[int](1)
	v = one.Of("a", func(string) int {
		one.Of("a", func(string) int { return 1 })
		one.Of("b", func(string) int { return 2 })
		none(t, "P12.1", one, "a")
		return 3
	})
	if v != 3 {
		t.Errorf("P12.1: Of: %d", v)
	}
	keeps(t, "P12.1", one, "a")
	get(t, "P12.1", one, "a", 3)
}

// P1: a make that panics answers nothing, and nothing is kept of it; the cache
// goes on.
func TestMakePanics(t *testing.T) {
	c := New[int](2)
	c.Put("a", 1)
	broken := func(string) int {
		c.Put("b", 2)
		panic("broken")
	}
	if v := c.Of("x", broken); v != 0 {
		t.Errorf("P1: Of: %d", v)
	}
	keeps(t, "P1", c, "b", "a")
	if v := c.Of("x", func(string) int { return 1 + c.Of("y", broken) }); v != 1 {
		t.Errorf("P1: Of: %d", v)
	}
	keeps(t, "P1", c, "x", "b")
	hits(t, c, 0, 3)
}

// P12.1: things of any type.
func TestThings(t *testing.T) {
	texts := New[[]string](1)
	if v := texts.Of("a", func(key string) []string { return []string{key, key} }); !slices.Equal(v, []string{"a", "a"}) {
		t.Errorf("P12.1: texts: %q", v)
	}
	texts.Put("b", nil)
	if v, there := texts.Get("a"); v != nil || there {
		t.Errorf("P12.1: no texts: %q, %v", v, there)
	}
	type pair struct {
		name string
		x    float64
	}
	pairs := New[pair](0)
	pairs.Put("a", pair{"a", 0.5})
	get(t, "P12.1", pairs, "a", pair{"a", 0.5})
	none(t, "P12.1", pairs, "b")
	x, y := 1, 1
	pointers := New[*int](2)
	pointers.Put("x", &x)
	pointers.Put("y", &y)
	get(t, "P12.1", pointers, "x", &x)
	calls := New[func() int](2)
	calls.Put("x", func() int { return x })
	if v, there := calls.Get("x"); !there || v() != 1 {
		t.Error("P12.1: a function")
	}
	caches := New[*Cache[*int]](2)
	if caches.Of("", func(string) *Cache[*int] { return pointers }) != pointers {
		t.Error("P12.1: a cache")
	}
}

// P12.1: what is handed in isn't kept; answers are new memory.
func TestMemory(t *testing.T) {
	c := New[int](3)
	b := []byte("key")
	c.Put(unsafe.String(&b[0], 3), 1)
	copy(b, "new")
	c.Of(unsafe.String(&b[0], 3), func(string) int { return 2 })
	copy(b, "xyz")
	keeps(t, "P12.1", c, "new", "key")
	get(t, "P12.1", c, "key", 1)
	get(t, "P12.1", c, "new", 2)
	c.Put("more", 3)
	c.Put("again", 4) // key goes, and by its own name
	keeps(t, "P12.1", c, "again", "more", "new")
	none(t, "P12.1", c, "key")
	one, two := c.Keys(), c.Keys()
	if unsafe.StringData(one[0]) == unsafe.StringData(two[0]) {
		t.Error("P12.1: answers share memory")
	}
	one[0], one[1] = "changed", "too"
	keeps(t, "P12.1", c, "again", "more", "new")
}

// weight reckons what hangs on its key alone, in ways that ask for others:
// how many ways there are to come to a number by steps of one and of two,
// modulo 2^64.
func weight(key string, ask func(key string) uint64) uint64 {
	n, _ := strconv.Atoi(key)
	if n < 2 {
		return 1
	}
	return ask(strconv.Itoa(n-2)) + 3*ask(strconv.Itoa(n-1))
}

// P12.2: whatever a cache keeps, it answers what make alone does, also where
// make asks it.
func TestAnswers(t *testing.T) {
	alone := []uint64{1, 1}
	for n := 2; n < 3000; n++ {
		alone = append(alone, alone[n-2]+3*alone[n-1])
	}
	for _, x := range []struct{ most, numbers int }{{-1, 12}, {1, 12}, {2, 300}, {3, 300}, {7, 3000}, {1024, 3000}, {1025, 3000}} {
		c := New[uint64](x.most)
		var ask func(key string) uint64
		ask = func(key string) uint64 {
			return c.Of(key, func(key string) uint64 { return weight(key, ask) })
		}
		r := rand.New(rand.NewSource(13))
		for i := range 20 {
			n := r.Intn(x.numbers)
			if i == 0 {
				n = x.numbers - 1
			}
			if v := ask(strconv.Itoa(n)); v != alone[n] {
				t.Errorf("P12.2: of at most %d: %d of %d, want %d", x.most, v, n, alone[n])
			}
		}
	}
}

// P12.2: the same of texts, with Puts and Gets between.
func TestAnswersBetween(t *testing.T) {
	r := rand.New(rand.NewSource(14))
	double := func(key string) string { return key + "," + key }
	for _, most := range []int{-1, 0, 1, 2, 5, 9, 1024} {
		c := New[string](most)
		for range 500 {
			key := strings.Repeat("k", r.Intn(10))
			switch r.Intn(4) {
			case 0:
				c.Put(key, double(key))
			case 1:
				if v, there := c.Get(key); there && v != double(key) {
					t.Errorf("P12.2: Get of %q: %q", key, v)
				}
			default:
				if v := c.Of(key, double); v != double(key) {
					t.Errorf("P12.2: Of %q: %q", key, v)
				}
			}
		}
	}
}

// plain is a cache by plain means: the keys, the one used last first, and what
// is kept by each.
type plain struct {
	most, found, asked int
	keys               []string
	kept               map[string]int
}

// use makes a key the one used last.
func (p *plain) use(key string) {
	p.keys = slices.DeleteFunc(p.keys, func(x string) bool { return x == key })
	p.keys = slices.Insert(p.keys, 0, key)
}

// get answers what is kept.
func (p *plain) get(key string) (int, bool) {
	p.asked++
	if !slices.Contains(p.keys, key) {
		return 0, false
	}
	p.found++
	p.use(key)
	return p.kept[key], true
}

// put keeps v.
func (p *plain) put(key string, v int) {
	p.kept[key] = v
	p.use(key)
	p.keys = p.keys[:min(len(p.keys), p.most)]
}

// P12.1: of any calls what plain means tell.
func TestAnyCalls(t *testing.T) {
	r := rand.New(rand.NewSource(15))
	for range 300 {
		p := &plain{most: 1 + r.Intn(8), kept: map[string]int{}}
		c := New[int](p.most)
		for i := range 120 {
			key := strings.Repeat("k", r.Intn(11))
			switch r.Intn(3) {
			case 0:
				p.put(key, i)
				c.Put(key, i)
			case 1:
				want, is := p.get(key)
				if v, there := c.Get(key); v != want || there != is {
					t.Fatalf("P12.1: Get of %q: %d, %v; want %d, %v", key, v, there, want, is)
				}
			default:
				want, is := p.get(key)
				if !is {
					want = i
					p.put(key, i)
				}
				if v := c.Of(key, func(string) int { return i }); v != want {
					t.Fatalf("P12.1: Of %q: %d, want %d", key, v, want)
				}
			}
			keeps(t, "P12.1", c, p.keys...)
			hits(t, c, p.found, p.asked)
			if t.Failed() {
				return
			}
		}
	}
}
