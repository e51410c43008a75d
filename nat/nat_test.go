package nat

import (
	"math"
	"math/big"
	"math/rand"
	"slices"
	"strings"
	"testing"
)

// numbers: those at the edges of limbs, of what is small, of what is read, and
// some of many limbs; as the library has them.
func numbers() []*big.Int {
	var all []*big.Int
	one := big.NewInt(1)
	for _, n := range []uint{0, 1, 8, 31, 32, 33, 63, 64, 65, 95, 96, 97, 128, 256, 1279, 1280, 1329, 2000} {
		power := new(big.Int).Lsh(one, n)
		all = append(all, new(big.Int).Sub(power, one), power, new(big.Int).Add(power, one))
	}
	for _, n := range []int64{1, 2, 8, 9, 10, 17, 18, 19, 27, 399, 400} {
		power := new(big.Int).Exp(big.NewInt(10), big.NewInt(n), nil)
		all = append(all, new(big.Int).Sub(power, one), power, new(big.Int).Add(power, one))
	}
	r := rand.New(rand.NewSource(3))
	for _, n := range []uint{40, 64, 70, 128, 500, 1280, 1500} {
		all = append(all, new(big.Int).Rand(r, new(big.Int).Lsh(one, n)))
	}
	return all
}

// of answers a number of the library's as a Nat, by way of limbs alone.
func of(x *big.Int) Nat {
	left := new(big.Int).Set(x)
	var limbs []uint32
	for left.Sign() > 0 {
		limbs = append(limbs, uint32(left.Uint64()))
		left.Rsh(left, 32)
	}
	return Nat{limbs}
}

// same tells where a isn't the number x, in the one form that numbers have.
func same(t *testing.T, promise string, a Nat, x *big.Int) {
	t.Helper()
	if !slices.Equal(a.limbs, of(x).limbs) {
		t.Errorf("%s: limbs %x, want %x", promise, a.limbs, of(x).limbs)
	}
	if len(a.limbs) == 0 && a.limbs != nil {
		t.Errorf("%s: 0 isn't a zero Nat", promise)
	}
}

// shared tells whether two numbers have memory in common, their spare room too.
func shared(a, b Nat) bool {
	x, y := a.limbs[:cap(a.limbs)], b.limbs[:cap(b.limbs)]
	for i := range x {
		for j := range y {
			if &x[i] == &y[j] {
				return true
			}
		}
	}
	return false
}

// apart tells where what is answered shares limbs with what was asked.
func apart(t *testing.T, call string, answer Nat, asked ...Nat) {
	t.Helper()
	for _, a := range asked {
		if shared(answer, a) {
			t.Errorf("P3.1: %s of %s shares limbs with it", call, a.Text())
		}
	}
}

// P3.1: small numbers, there and back.
func TestSmall(t *testing.T) {
	for _, x := range []uint64{0, 1, 258, math.MaxUint32 - 1, math.MaxUint32, 1 << 32, 1<<32 + 1, 1 << 63, math.MaxUint64 - 1, math.MaxUint64} {
		a := Of(x)
		same(t, "P3.1: Of", a, new(big.Int).SetUint64(x))
		if y, ok := a.Small(); y != x || !ok {
			t.Errorf("P3.1: Small of %d: %d, %t", x, y, ok)
		}
	}
	for _, x := range numbers() {
		y, ok := of(x).Small()
		if ok != x.IsUint64() || ok && y != x.Uint64() || !ok && y != 0 {
			t.Errorf("P3.1: Small of %s: %d, %t", x, y, ok)
		}
	}
}

// P3.1: 0 has no limbs, whatever it comes from; a zero Nat is 0.
func TestZero(t *testing.T) {
	var zero Nat
	five := Of(5)
	none, _ := five.Sub(five)
	quotient, _, _ := five.Div(6)
	read, _ := Parse("0")
	taken, _ := From("")
	for i, a := range []Nat{zero, Of(0), none, quotient, read, taken, zero.Add(zero), zero.Mul(five), five.Mul(zero)} {
		if a.limbs != nil || !a.Zero() || a.Bits() != 0 || a.Text() != "0" || a.Bytes() != "" || a.Cmp(zero) != 0 {
			t.Errorf("P3.1: %d: limbs %x, %t, %d, %s, %x", i, a.limbs, a.Zero(), a.Bits(), a.Text(), a.Bytes())
		}
		if x, ok := a.Small(); x != 0 || !ok {
			t.Errorf("P3.1: Small of 0: %d, %t", x, ok)
		}
	}
	if five.Zero() || Of(1<<32).Zero() {
		t.Error("P3.1: 5 or 2^32 is 0")
	}
	same(t, "P3.1: 5 + 0", five.Add(zero), big.NewInt(5))
	same(t, "P3.1: 0 + 5", zero.Add(five), big.NewInt(5))
}

// P3.1: each two numbers' sum, difference, product, and which one is greater.
func TestTwo(t *testing.T) {
	for _, x := range numbers() {
		for _, y := range numbers() {
			a, b := of(x), of(y)
			same(t, "P3.1: Add", a.Add(b), new(big.Int).Add(x, y))
			same(t, "P3.1: Mul", a.Mul(b), new(big.Int).Mul(x, y))
			if c := a.Cmp(b); c != x.Cmp(y) {
				t.Errorf("P3.1: Cmp %s, %s: %d", x, y, c)
			}
			d, ok := a.Sub(b)
			if ok != (x.Cmp(y) >= 0) {
				t.Errorf("P3.1: Sub %s, %s: %t", x, y, ok)
			}
			want := new(big.Int)
			if ok {
				want.Sub(x, y)
			}
			same(t, "P3.1: Sub", d, want)
			same(t, "P3.1: what was asked", a, x)
			same(t, "P3.1: what was asked", b, y)
		}
	}
}

// P3.1: carries and borrows that go through all limbs, and limbs that differ
// below equal ones.
func TestThroughLimbs(t *testing.T) {
	one := Of(1)
	full := Nat{[]uint32{math.MaxUint32, math.MaxUint32, math.MaxUint32}}
	next := Nat{[]uint32{0, 0, 0, 1}}
	if s := full.Add(one); !slices.Equal(s.limbs, next.limbs) {
		t.Errorf("P3.1: %x", s.limbs)
	}
	if s := one.Add(full); !slices.Equal(s.limbs, next.limbs) {
		t.Errorf("P3.1: %x", s.limbs)
	}
	if d, ok := next.Sub(one); !ok || !slices.Equal(d.limbs, full.limbs) {
		t.Errorf("P3.1: %x, %t", d.limbs, ok)
	}
	low, high := Nat{[]uint32{9, 5, 7}}, Nat{[]uint32{0, 6, 7}}
	if low.Cmp(high) != -1 || high.Cmp(low) != 1 || low.Cmp(low) != 0 {
		t.Error("P3.1: Cmp of limbs in the midst")
	}
	if d, ok := low.Sub(high); ok || d.limbs != nil {
		t.Errorf("P3.1: a smaller one less a greater one: %x, %t", d.limbs, ok)
	}
	if d, ok := high.Sub(low); !ok || d.Text() != "4294967287" {
		t.Errorf("P3.1: %s, %t", d.Text(), ok)
	}
}

// P3.1, P3.2: quotients and rests, of any divisor.
func TestDiv(t *testing.T) {
	for _, x := range numbers() {
		a := of(x)
		for _, d := range []uint32{1, 2, 3, 7, 10, 256, 1000000000, 1 << 31, math.MaxUint32 - 1, math.MaxUint32} {
			q, rest, ok := a.Div(d)
			wantQ, wantRest := new(big.Int).DivMod(x, big.NewInt(int64(d)), new(big.Int))
			same(t, "P3.1: Div", q, wantQ)
			if !ok || uint64(rest) != wantRest.Uint64() {
				t.Errorf("P3.1: %s by %d: rest %d, %t", x, d, rest, ok)
			}
			if q.Mul(Of(uint64(d))).Add(Of(uint64(rest))).Cmp(a) != 0 {
				t.Errorf("P3.2: %s by %d: %s, %d", x, d, q.Text(), rest)
			}
		}
		if q, rest, ok := a.Div(0); q.limbs != nil || rest != 0 || ok {
			t.Errorf("P3.1: %s by 0: %s, %d, %t", x, q.Text(), rest, ok)
		}
		same(t, "P3.1: what was divided", a, x)
	}
}

// P3.1: bits, also beside the edges of limbs; the chapter's example.
func TestBits(t *testing.T) {
	for _, x := range numbers() {
		if n := of(x).Bits(); n != x.BitLen() {
			t.Errorf("P3.1: Bits of %s: %d", x, n)
		}
	}
	if a := Of(4294967295).Add(Of(1)); a.Text() != "4294967296" || a.Bits() != 33 {
		t.Errorf("P3.1: %s, of %d bits", a.Text(), a.Bits())
	}
}

// P3.1: no answer shares limbs with what was asked, not even where it is the
// same number.
func TestMemory(t *testing.T) {
	zero, one := Nat{}, Of(1)
	for _, x := range numbers() {
		a := of(x)
		apart(t, "Add", a.Add(zero), a)
		apart(t, "Add", zero.Add(a), a)
		apart(t, "Add", a.Add(a), a)
		less, _ := a.Sub(zero)
		apart(t, "Sub", less, a)
		apart(t, "Mul", a.Mul(one), a, one)
		apart(t, "Mul", one.Mul(a), a, one)
		by, _, _ := a.Div(1)
		apart(t, "Div", by, a)
		text := a.Text()
		bytes := a.Bytes()
		if text != x.String() || bytes != string(x.Bytes()) {
			t.Errorf("P3.1: of %s: %s, %x", x, text, bytes)
		}
		same(t, "P3.1: behind Text and Bytes", a, x)
	}
	apart(t, "Of", Of(7), Of(7))
}

// P3.2: sums and products go both ways, and through three; what is added is
// taken away again.
func TestBothWays(t *testing.T) {
	all := numbers()
	for i, x := range all {
		a, b, c := of(x), of(all[(i*7+3)%len(all)]), of(all[(i*5+11)%len(all)])
		if a.Add(b).Cmp(b.Add(a)) != 0 || a.Mul(b).Cmp(b.Mul(a)) != 0 {
			t.Errorf("P3.2: %s, %s: not both ways", a.Text(), b.Text())
		}
		if a.Add(b).Add(c).Cmp(a.Add(b.Add(c))) != 0 || a.Mul(b).Mul(c).Cmp(a.Mul(b.Mul(c))) != 0 {
			t.Errorf("P3.2: %s, %s, %s: not through three", a.Text(), b.Text(), c.Text())
		}
		if a.Mul(b.Add(c)).Cmp(a.Mul(b).Add(a.Mul(c))) != 0 {
			t.Errorf("P3.2: %s times %s and %s", a.Text(), b.Text(), c.Text())
		}
		if d, ok := a.Add(b).Sub(b); !ok || d.Cmp(a) != 0 {
			t.Errorf("P3.2: %s and %s, less that: %s", a.Text(), b.Text(), d.Text())
		}
	}
}

// P3.3: texts, there and back, up to 400 digits.
func TestText(t *testing.T) {
	for _, x := range numbers() {
		text := of(x).Text()
		if text != x.String() {
			t.Errorf("P3.3: %s, want %s", text, x)
		}
		a, ok := Parse(text)
		if ok != (len(text) <= 400) {
			t.Errorf("P3.3: of %d digits: %t", len(text), ok)
		}
		want := new(big.Int)
		if ok {
			want = x
		}
		same(t, "P3.3: Parse", a, want)
	}
}

// P3.3: what is no such text, or too long.
func TestWrongTexts(t *testing.T) {
	for _, s := range []string{
		"", "00", "01", "000", "0123456789", "1x", "x1", "x", "-1", "-0", "+1", " 1", "1 ", "1_0", "1.0", "1e3", "0x1",
		"/", ":", "1/", "1:", "1\x00", "\x00", "\xff", "1\xff", "1\xff2", "\xc3\x28", "1\xe2\x82", "1\xef\xbf\xbd2",
		"٣", "1٣", "１", "1１2", "\xb1", "\U00010030",
		strings.Repeat("9", 401), "1" + strings.Repeat("0", 400), strings.Repeat("0", 400), "0" + strings.Repeat("9", 399),
		strings.Repeat("9", 399) + "x", strings.Repeat("9", 5000),
	} {
		if a, ok := Parse(s); ok || a.limbs != nil {
			t.Errorf("P3.3: %q: %s, %t", s, a.Text(), ok)
		}
	}
}

// P3.3: texts of one digit, of 399 and of 400.
func TestLongTexts(t *testing.T) {
	for _, s := range []string{
		"0", "1", "2", "3", "4", "5", "6", "7", "8", "9", "10", "90", "1234567890", "1000000000", "1000000001", "999999999",
		strings.Repeat("9", 399), strings.Repeat("9", 400), "1" + strings.Repeat("0", 399), strings.Repeat("1", 400),
	} {
		want, _ := new(big.Int).SetString(s, 10)
		a, ok := Parse(s)
		same(t, "P3.3: Parse", a, want)
		if !ok || a.Text() != s {
			t.Errorf("P3.3: %s: %s, %t", s, a.Text(), ok)
		}
	}
}

// P3.3: each text is a number's in one way alone, or none.
func TestOneTextAlone(t *testing.T) {
	const letters = "019a-"
	for _, a := range letters {
		for _, b := range letters {
			for _, c := range letters {
				s := string([]rune{a, b, c})
				if x, ok := Parse(s); ok && x.Text() != s {
					t.Errorf("P3.3: %q is taken as %s", s, x.Text())
				}
			}
		}
	}
}

// P3.3: bytes, there and back, up to 160.
func TestBytes(t *testing.T) {
	for _, x := range numbers() {
		s := of(x).Bytes()
		if s != string(x.Bytes()) {
			t.Errorf("P3.3: %x, want %x", s, x.Bytes())
		}
		a, ok := From(s)
		if ok != (len(s) <= 160) {
			t.Errorf("P3.3: of %d bytes: %t", len(s), ok)
		}
		want := new(big.Int)
		if ok {
			want = x
		}
		same(t, "P3.3: From", a, want)
	}
}

// P3.3: bytes of each length, with bytes of all values.
func TestLengths(t *testing.T) {
	for n := range 165 {
		b := make([]byte, n)
		for i := range b {
			b[i] = byte(255 - 31*i)
		}
		a, ok := From(string(b))
		if ok != (n <= 160) {
			t.Errorf("P3.3: of %d bytes: %t", n, ok)
		}
		want := new(big.Int)
		if n <= 160 {
			want.SetBytes(b)
		}
		same(t, "P3.3: From", a, want)
		if ok && a.Bytes() != string(b) {
			t.Errorf("P3.3: %x, want %x", a.Bytes(), b)
		}
	}
}

// P3.3: what are no number's bytes, or too many.
func TestWrongBytes(t *testing.T) {
	for _, s := range []string{
		"\x00", "\x00\x00", "\x00\x01", "\x00\x00\x00\x00\x01", "\x00" + strings.Repeat("\xff", 159),
		strings.Repeat("\x00", 160), strings.Repeat("\xff", 161), "\x01" + strings.Repeat("\x00", 160), "\x00" + strings.Repeat("\xff", 160),
	} {
		if a, ok := From(s); ok || a.limbs != nil {
			t.Errorf("P3.3: %x: %s, %t", s, a.Text(), ok)
		}
	}
}
