package gain

import (
	"math"
	"math/big"
	"math/rand"
	"reflect"
	"testing"

	"coxswain/nat"
)

// powers: small ones, powers of two and what stands beside them, the greatest
// one, and some between; in no order.
func powers() []uint64 {
	all := []uint64{0, math.MaxUint64, math.MaxUint64 - 1}
	for p := range uint64(300) {
		all = append(all, p)
	}
	for n := range 64 {
		all = append(all, 1<<n-1, 1<<n, 1<<n+1)
	}
	r := rand.New(rand.NewSource(4))
	for n := range 60 {
		all = append(all, r.Uint64()>>n)
	}
	return all
}

// weigh answers, in the library's numbers, what a tipset weighs more.
func weigh(p uint64, wins int) *big.Int {
	log := big.NewInt(int64(Log(p)))
	won := new(big.Int).Mul(log, big.NewInt(int64(max(wins, 0))))
	return won.Add(won.Quo(won, big.NewInt(10)), log)
}

// at answers where a number's limbs stand.
func at(t *testing.T, a nat.Nat) uintptr {
	t.Helper()
	limbs := reflect.ValueOf(a).Field(0)
	if limbs.Kind() != reflect.Slice {
		t.Fatal("a number's limbs are no list")
	}
	return limbs.Pointer()
}

// P4.1: the logarithm of some powers.
func TestLog(t *testing.T) {
	for p, want := range map[uint64]int{
		0: 0, 1: 0, 2: 256, 3: 405, 4: 512, 5: 594, 7: 718, 8: 768, 10: 850, 1 << 40: 10240, 1 << 62: 15872, 1 << 63: 16128,
		1<<40 - 1: 10239, 1<<63 - 1: 16127, 1<<63 + 1: 16128, math.MaxUint64: 16383,
	} {
		if x := Log(p); x != want {
			t.Errorf("P4.1: Log(%d): %d, want %d", p, x, want)
		}
	}
}

// P4.1: 2^k isn't above p^256, and no greater k is so.
func TestLogIsTheGreatest(t *testing.T) {
	for _, p := range powers() {
		if p == 0 {
			continue
		}
		k := uint(Log(p))
		high := new(big.Int).Exp(new(big.Int).SetUint64(p), big.NewInt(256), nil)
		if new(big.Int).Lsh(big.NewInt(1), k).Cmp(high) > 0 || new(big.Int).Lsh(big.NewInt(1), k+1).Cmp(high) <= 0 {
			t.Errorf("P4.1: Log(%d): %d", p, k)
		}
	}
}

// P4.1: what a tipset of some power and wins weighs.
func TestOf(t *testing.T) {
	for _, c := range []struct {
		power uint64
		wins  int
		want  string
	}{
		{2, 5, "384"}, {2, 0, "256"}, {2, 1, "281"}, {2, -1, "256"}, {2, -5, "256"}, {2, math.MinInt, "256"}, {2, 10, "512"},
		{3, 1, "445"}, {3, 2, "486"}, {3, 15, "1012"}, {0, 0, "0"}, {0, 15, "0"}, {1, 15, "0"}, {0, math.MaxInt, "0"}, {0, -1, "0"},
		{1 << 40, 15, "25600"}, {math.MaxUint64, 75, "139255"},
	} {
		if s := Of(c.power, c.wins).Text(); s != c.want {
			t.Errorf("P4.1: Of(%d, %d): %s, want %s", c.power, c.wins, s, c.want)
		}
	}
}

// P4.1: any powers and wins, also where a product fits no int.
func TestOfAny(t *testing.T) {
	for _, p := range powers() {
		for _, wins := range []int{math.MinInt, -1, 0, 1, 9, 10, 11, 75, math.MaxInt32, math.MaxInt / 10, math.MaxInt - 1, math.MaxInt} {
			if s := Of(p, wins).Text(); s != weigh(p, wins).String() {
				t.Errorf("P4.1: Of(%d, %d): %s, want %s", p, wins, s, weigh(p, wins))
			}
		}
	}
}

// P4.1: a weight, and steps.
func TestSum(t *testing.T) {
	great, _ := nat.Parse("340282366920938463463374607431768211455")
	for _, c := range []struct {
		start nat.Nat
		steps []Step
		want  string
	}{
		{nat.Nat{}, nil, "0"},
		{nat.Of(7), nil, "7"},
		{nat.Of(7), []Step{}, "7"},
		{nat.Of(7), []Step{{}}, "7"},
		{nat.Of(7), []Step{{Power: 2, Wins: 5}}, "391"},
		{nat.Of(7), []Step{{Power: 2, Wins: 5}, {Power: 4, Wins: 0}}, "903"},
		{nat.Of(7), []Step{{Power: 2, Wins: 1}, {Power: 2, Wins: 1}}, "569"},
		{nat.Of(7), []Step{{Power: 2, Wins: -9}, {Power: 0, Wins: 9}, {Power: 1, Wins: 9}}, "263"},
		{nat.Of(math.MaxUint64), []Step{{Power: 2}}, "18446744073709551871"},
		{great, []Step{{Power: 3, Wins: 15}, {Power: 2}}, "340282366920938463463374607431768212723"},
	} {
		before, steps := c.start.Text(), append([]Step(nil), c.steps...)
		if s := Sum(c.start, c.steps).Text(); s != c.want {
			t.Errorf("P4.1: Sum(%s, %v): %s, want %s", before, c.steps, s, c.want)
		}
		if c.start.Text() != before || len(steps) > 0 && !reflect.DeepEqual(steps, c.steps) {
			t.Errorf("P4.1: Sum changed %s, %v", before, steps)
		}
	}
}

// P4.1: what Sum answers shares no limbs with start, also where it is the same.
func TestSumIsNew(t *testing.T) {
	start := nat.Of(1 << 40)
	for _, l := range [][]Step{nil, {}, {{}}, {{Power: 1, Wins: 3}}, {{Power: 2}}} {
		if at(t, Sum(start, l)) == at(t, start) {
			t.Errorf("P4.1: Sum of %d steps shares limbs with start", len(l))
		}
	}
}

// P4.1: only one that is above the other is heavier.
func TestHeavier(t *testing.T) {
	a, b, far := nat.Of(901), nat.Of(902), nat.Of(1<<40)
	for _, c := range []struct {
		a, b nat.Nat
		want bool
	}{{a, b, false}, {b, a, true}, {a, a, false}, {nat.Nat{}, nat.Nat{}, false}, {a, nat.Nat{}, true}, {nat.Nat{}, a, false}, {far, b, true}, {b, far, false}} {
		if Heavier(c.a, c.b) != c.want {
			t.Errorf("P4.1: Heavier(%s, %s) isn't %t", c.a.Text(), c.b.Text(), c.want)
		}
	}
}

// P4.2: a greater power, and more wins, weigh no less.
func TestNoLess(t *testing.T) {
	for _, p := range powers() {
		for _, wins := range []int{-1, 0, 1, 15, 75} {
			x := Of(p, wins)
			if more := Of(p, wins+1); Heavier(x, more) {
				t.Errorf("P4.2: Of(%d, %d) is %s, one win more %s", p, wins, x.Text(), more.Text())
			}
			if p == math.MaxUint64 {
				continue
			}
			if more := Of(p+1, wins); Heavier(x, more) || Log(p) > Log(p+1) {
				t.Errorf("P4.2: Of(%d, %d) is %s, of a power one greater %s", p, wins, x.Text(), more.Text())
			}
		}
	}
}

// P4.2: each step of a power from 2 on weighs at least 256 more.
func TestEachStep(t *testing.T) {
	total := nat.Of(math.MaxUint64 - 1000)
	for _, p := range powers() {
		for _, wins := range []int{math.MinInt, -1, 0, 1, 15} {
			next := Sum(total, []Step{{Power: p, Wins: wins}})
			if p >= 2 && Heavier(total.Add(nat.Of(256)), next) {
				t.Errorf("P4.2: a step of %d, %d: %s behind %s", p, wins, next.Text(), total.Text())
			}
			total = next
		}
	}
}
