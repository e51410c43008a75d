package digest

import (
	"crypto/sha256"
	"encoding/hex"
	"math/big"
	"strings"
	"testing"

	"coxswain/api"
)

// sample answers n bytes, of all values.
func sample(n int) string {
	b := make([]byte, n)
	for i := range b {
		b[i] = byte(i*7 + i>>8 + 3)
	}
	return string(b)
}

// P2.1: the digests that FIPS 180-4's examples and others name.
func TestOf(t *testing.T) {
	for s, want := range map[string]string{
		"":    "e3b0c44298fc1c149afbf4c8996fb92427ae41e4649b934ca495991b7852b855",
		"abc": "ba7816bf8f01cfea414140de5dae2223b00361a396177a9cb410ff61f20015ad",
		"abcdbcdecdefdefgefghfghighijhijkijkljklmklmnlmnomnopnopq": "248d6a61d20638b8e5c026930c3e6039a33ce45964ff2167f6ecedd419db06c1",
		strings.Repeat("a", 1000000):                               "cdc76e5c9914fb9281a1c7e284d73e67f1809a48a497200e046d39ccc7112cd0",
	} {
		if x := Hex(Of(s)); x != want {
			t.Errorf("P2.1: of %d bytes: %s, want %s", len(s), x, want)
		}
	}
	if Of() != Of("") {
		t.Error("P2.1: of no texts")
	}
}

// P2.1: bytes of each length around a block's end, against the library.
func TestLengths(t *testing.T) {
	for n := range 300 {
		if s := sample(n); Of(s) != api.ID(sha256.Sum256([]byte(s))) {
			t.Errorf("P2.1: of %d bytes: %s", n, Hex(Of(s)))
		}
	}
}

// P2.2: in whatever two or three parts the bytes come, empty ones too.
func TestParts(t *testing.T) {
	for _, n := range []int{0, 1, 54, 55, 56, 57, 62, 63, 64, 65, 119, 120, 127, 128, 129, 192} {
		s := sample(n)
		want := api.ID(sha256.Sum256([]byte(s)))
		for i := range n + 1 {
			if Of(s[:i], s[i:]) != want || Of("", s[:i], "", s[i:], "") != want {
				t.Errorf("P2.2: %d bytes, parted at %d", n, i)
			}
			j := i + (n-i)/2
			if Of(s[:i], s[i:j], s[j:]) != want {
				t.Errorf("P2.2: %d bytes, parted at %d and %d", n, i, j)
			}
		}
	}
}

// P2.2: byte by byte; the list that is handed in stays.
func TestBytewise(t *testing.T) {
	s := sample(200)
	var l []string
	for i := range len(s) {
		l = append(l, s[i:i+1])
	}
	if Of(l...) != Of(s) || strings.Join(l, "") != s {
		t.Error("P2.2: byte by byte")
	}
}

// P2.1: each byte has two digits, the higher one first; Short is eight.
func TestHex(t *testing.T) {
	var id api.ID
	if Hex(id) != strings.Repeat("00", 32) || Short(id) != "00000000" {
		t.Errorf("P2.1: %s, %s", Hex(id), Short(id))
	}
	for from := range 8 {
		for i := range id {
			id[i] = byte(32*from + i)
		}
		want := hex.EncodeToString(id[:])
		if Hex(id) != want || Short(id) != want[:8] {
			t.Errorf("P2.1: %s, %s; want %s", Hex(id), Short(id), want)
		}
	}
}

// P2.1, P2.2: Check is the first four bytes, the highest first.
func TestCheck(t *testing.T) {
	for _, l := range [][]string{nil, {""}, {"abc"}, {"ab", "", "c"}, {sample(64)}, {sample(64), sample(65)}} {
		b := sha256.Sum256([]byte(strings.Join(l, "")))
		want := uint32(b[0])<<24 | uint32(b[1])<<16 | uint32(b[2])<<8 | uint32(b[3])
		if x := Check(l...); x != want {
			t.Errorf("P2.1: Check of %d texts: %08x, want %08x", len(l), x, want)
		}
	}
	if Check("ab", "c") != 0xba7816bf {
		t.Errorf("P2.2: Check: %08x", Check("ab", "c"))
	}
}

// root answers the first 32 bits behind the point of the n-th root of p.
func root(p, n int64) uint32 {
	q := new(big.Int).Lsh(big.NewInt(p), uint(32*n)) // p * 2^32n: its root is that of p, times 2^32
	low, high := big.NewInt(0), new(big.Int).Lsh(big.NewInt(p), 32)
	for low.Cmp(high) < 0 {
		mid := new(big.Int).Add(low, high)
		mid.Add(mid, big.NewInt(1)).Rsh(mid, 1)
		if new(big.Int).Exp(mid, big.NewInt(n), nil).Cmp(q) <= 0 {
			low = mid
		} else {
			high = mid.Sub(mid, big.NewInt(1))
		}
	}
	return uint32(low.Uint64())
}

// P2.1: the words are those of the roots of the first primes.
func TestWords(t *testing.T) {
	i := 0
	for p := int64(2); i < rounds; p++ {
		if !big.NewInt(p).ProbablyPrime(0) {
			continue
		}
		if want := root(p, 3); roundWords[i] != want {
			t.Errorf("P2.1: k(%d): %08x, want %08x", i, roundWords[i], want)
		}
		if s := begin(); i < len(s.words) && s.words[i] != root(p, 2) {
			t.Errorf("P2.1: word %d: %08x, want %08x", i, s.words[i], root(p, 2))
		}
		i++
	}
}
