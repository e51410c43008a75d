package cert

import (
	"crypto/sha256"
	"math"
	"reflect"
	"slices"
	"strings"
	"testing"
	"unsafe"

	"coxswain/api"
	"coxswain/table"
)

// names answers the bytes of names that begin with these bytes.
func names(first ...byte) string {
	var s []byte
	for _, b := range first {
		id := api.ID{b, 31: 0xee}
		s = append(s, id[:]...)
	}
	return string(s)
}

// miners answers the miners 0 to n - 1.
func miners(n int) []int {
	var l []int
	for miner := range n {
		l = append(l, miner)
	}
	return l
}

// entries answers entries of the miners 0 to n - 1, of power 7 each.
func entries(n int) []table.Entry {
	var l []table.Entry
	for miner := range n {
		l = append(l, table.Entry{Miner: miner, Power: 7})
	}
	return l
}

// good answers a certificate that may be.
func good() Cert {
	return Cert{
		Instance: 3, Base: names(9), Final: names(1, 2), Signers: []int{1, 5, 40},
		Change: []table.Entry{{Miner: 1}, {Miner: 2, Power: 9}},
	}
}

// edges: each field beside its edges, whether the certificate may be then, and
// what Parse answers of its bytes (where numbers below 0 stand as 0).
var edges = []struct {
	name        string
	set         func(c *Cert)
	check, read api.Errno
}{
	{"instance, the least int", func(c *Cert) { c.Instance = math.MinInt }, api.ErrArg, api.OK},
	{"instance -1", func(c *Cert) { c.Instance = -1 }, api.ErrArg, api.OK},
	{"instance 0", func(c *Cert) { c.Instance = 0 }, api.OK, api.OK},
	{"instance 2^30", func(c *Cert) { c.Instance = 1 << 30 }, api.OK, api.OK},
	{"instance 2^30 + 1", func(c *Cert) { c.Instance = 1<<30 + 1 }, api.ErrArg, api.ErrArg},
	{"instance 2^62", func(c *Cert) { c.Instance = 1 << 62 }, api.ErrArg, api.ErrArg},
	{"instance 2^62 + 1", func(c *Cert) { c.Instance = 1<<62 + 1 }, api.ErrArg, api.ErrBig},
	{"instance, the greatest int", func(c *Cert) { c.Instance = math.MaxInt }, api.ErrArg, api.ErrBig},

	{"base of no name", func(c *Cert) { c.Base = "" }, api.ErrArg, api.ErrArg},
	{"base of 5 names", func(c *Cert) { c.Base = names(1, 2, 3, 4, 0xff) }, api.OK, api.OK},
	{"base of 6 names", func(c *Cert) { c.Base = names(1, 2, 3, 4, 5, 6) }, api.ErrArg, api.ErrBig},
	{"base of 31 bytes", func(c *Cert) { c.Base = names(1)[1:] }, api.ErrArg, api.ErrArg},
	{"base of 33 bytes", func(c *Cert) { c.Base = names(1) + "x" }, api.ErrArg, api.ErrArg},
	{"base of 159 bytes", func(c *Cert) { c.Base = names(1, 2, 3, 4, 5)[:159] }, api.ErrArg, api.ErrArg},
	{"base of 161 bytes", func(c *Cert) { c.Base = names(1, 2, 3, 4, 5) + "x" }, api.ErrArg, api.ErrBig},
	{"base that falls", func(c *Cert) { c.Base = names(2, 1) }, api.ErrArg, api.ErrArg},
	{"base with a name twice", func(c *Cert) { c.Base = names(1, 2, 2) }, api.ErrArg, api.ErrArg},

	{"final of no name", func(c *Cert) { c.Final = "" }, api.ErrArg, api.ErrArg},
	{"final of 1 name", func(c *Cert) { c.Final = names(0) }, api.OK, api.OK},
	{"final of 5 names", func(c *Cert) { c.Final = names(1, 2, 3, 0x7f, 0x80) }, api.OK, api.OK},
	{"final of 6 names", func(c *Cert) { c.Final = names(1, 2, 3, 4, 5, 6) }, api.ErrArg, api.ErrBig},
	{"final of 31 bytes", func(c *Cert) { c.Final = names(1)[1:] }, api.ErrArg, api.ErrArg},
	{"final of 65 bytes", func(c *Cert) { c.Final = names(1, 2) + "x" }, api.ErrArg, api.ErrArg},
	{"final of 300 bytes", func(c *Cert) { c.Final = strings.Repeat("n", 300) }, api.ErrArg, api.ErrBig},
	{"final that falls at its end", func(c *Cert) { c.Final = names(1, 3, 2) }, api.ErrArg, api.ErrArg},
	{"final with a name twice", func(c *Cert) { c.Final = names(1, 1) }, api.ErrArg, api.ErrArg},
	{"final that is the base", func(c *Cert) { c.Final = c.Base }, api.OK, api.OK},

	{"signers nil", func(c *Cert) { c.Signers = nil }, api.OK, api.OK},
	{"no signers", func(c *Cert) { c.Signers = []int{} }, api.OK, api.OK},
	{"64 signers", func(c *Cert) { c.Signers = miners(64) }, api.OK, api.OK},
	{"65 signers", func(c *Cert) { c.Signers = miners(65) }, api.ErrBig, api.ErrBig},
	{"65 signers, all of them 0", func(c *Cert) { c.Signers = make([]int, 65) }, api.ErrBig, api.ErrBig},
	{"300 signers", func(c *Cert) { c.Signers = miners(300) }, api.ErrBig, api.ErrBig},
	{"signer -1", func(c *Cert) { c.Signers = []int{-1} }, api.ErrArg, api.OK},
	{"signer -1 ahead of others", func(c *Cert) { c.Signers = []int{-1, 3, 4} }, api.ErrArg, api.OK},
	{"signer 0", func(c *Cert) { c.Signers = []int{0} }, api.OK, api.OK},
	{"signer 63", func(c *Cert) { c.Signers = []int{63} }, api.OK, api.OK},
	{"signer 64", func(c *Cert) { c.Signers = []int{64} }, api.ErrArg, api.ErrArg},
	{"signer 64 behind others", func(c *Cert) { c.Signers = []int{0, 63, 64} }, api.ErrArg, api.ErrArg},
	{"signer 2^62", func(c *Cert) { c.Signers = []int{1 << 62} }, api.ErrArg, api.ErrArg},
	{"signer 2^62 + 1", func(c *Cert) { c.Signers = []int{1<<62 + 1} }, api.ErrArg, api.ErrBig},
	{"signers that fall", func(c *Cert) { c.Signers = []int{5, 1} }, api.ErrArg, api.ErrArg},
	{"signers that fall at their end", func(c *Cert) { c.Signers = []int{1, 6, 5} }, api.ErrArg, api.ErrArg},
	{"a signer twice", func(c *Cert) { c.Signers = []int{5, 5} }, api.ErrArg, api.ErrArg},
	{"signer 0 twice", func(c *Cert) { c.Signers = []int{0, 0} }, api.ErrArg, api.ErrArg},

	{"changes nil", func(c *Cert) { c.Change = nil }, api.OK, api.OK},
	{"no changes", func(c *Cert) { c.Change = []table.Entry{} }, api.OK, api.OK},
	{"64 changes", func(c *Cert) { c.Change = entries(64) }, api.OK, api.OK},
	{"65 changes", func(c *Cert) { c.Change = entries(65) }, api.ErrBig, api.ErrBig},
	{"65 changes, all of them zero", func(c *Cert) { c.Change = make([]table.Entry, 65) }, api.ErrBig, api.ErrBig},
	{"64 changes, all of them zero", func(c *Cert) { c.Change = make([]table.Entry, 64) }, api.ErrArg, api.ErrArg},
	{"a change of miner -1", func(c *Cert) { c.Change = []table.Entry{{Miner: -1, Power: 5}} }, api.ErrArg, api.OK},
	{"a change of miner 0", func(c *Cert) { c.Change = []table.Entry{{Miner: 0, Power: 5}} }, api.OK, api.OK},
	{"a change of miner 63", func(c *Cert) { c.Change = []table.Entry{{Miner: 63, Power: 5}} }, api.OK, api.OK},
	{"a change of miner 64", func(c *Cert) { c.Change = []table.Entry{{Miner: 64, Power: 5}} }, api.ErrArg, api.ErrArg},
	{"a change of miner 65", func(c *Cert) { c.Change = []table.Entry{{Miner: 65, Power: 5}} }, api.ErrArg, api.ErrArg},
	{"a change of miner 2^62", func(c *Cert) { c.Change = []table.Entry{{Miner: 1 << 62, Power: 5}} }, api.ErrArg, api.ErrArg},
	{"a change of miner 2^62 + 1", func(c *Cert) { c.Change = []table.Entry{{Miner: 1<<62 + 1, Power: 5}} }, api.ErrArg, api.ErrBig},
	{"a change to power -1", func(c *Cert) { c.Change = []table.Entry{{Miner: 1, Power: -1}} }, api.ErrArg, api.OK},
	{"a change to power 0", func(c *Cert) { c.Change = []table.Entry{{Miner: 1}} }, api.OK, api.OK},
	{"64 changes to power 0", func(c *Cert) {
		c.Change = entries(64)
		for i := range c.Change {
			c.Change[i].Power = 0
		}
	}, api.OK, api.OK},
	{"a change to power 1", func(c *Cert) { c.Change = []table.Entry{{Miner: 1, Power: 1}} }, api.OK, api.OK},
	{"a change to power 2^40", func(c *Cert) { c.Change = []table.Entry{{Miner: 1, Power: 1 << 40}} }, api.OK, api.OK},
	{"a change to power 2^40 + 1", func(c *Cert) { c.Change = []table.Entry{{Miner: 1, Power: 1<<40 + 1}} }, api.ErrArg, api.ErrArg},
	{"a change to power 2^62", func(c *Cert) { c.Change = []table.Entry{{Miner: 1, Power: 1 << 62}} }, api.ErrArg, api.ErrArg},
	{"a change to power 2^62 + 1", func(c *Cert) { c.Change = []table.Entry{{Miner: 1, Power: 1<<62 + 1}} }, api.ErrArg, api.ErrBig},
	{"changes that fall", func(c *Cert) { slices.Reverse(c.Change) }, api.ErrArg, api.ErrArg},
	{"a change twice", func(c *Cert) { c.Change[1] = c.Change[0] }, api.ErrArg, api.ErrArg},
	{"two changes of one miner", func(c *Cert) { c.Change[1].Miner = c.Change[0].Miner }, api.ErrArg, api.ErrArg},

	{"65 signers, all else wrong", func(c *Cert) { *c = Cert{Instance: -1, Base: "b", Signers: miners(65)} }, api.ErrBig, api.ErrBig},
	{"65 changes, all else wrong", func(c *Cert) { *c = Cert{Instance: -1, Base: "b", Signers: []int{1, 0}, Change: entries(65)} }, api.ErrBig, api.ErrBig},
	{"zero", func(c *Cert) { *c = Cert{} }, api.ErrArg, api.ErrArg},
}

// P7.1: which certificates may be, and what is told of those that may not.
func TestCheck(t *testing.T) {
	if e := good().Check(); e != api.OK {
		t.Fatalf("P7.1: a good certificate: %d", e)
	}
	for _, x := range edges {
		c := good()
		x.set(&c)
		if e := c.Check(); e != x.check {
			t.Errorf("P7.1: %s: Check %d, want %d", x.name, e, x.check)
		}
	}
}

// same tells whether certificates are alike, where a list may be nil.
func same(a, b Cert) bool {
	return a.Instance == b.Instance && a.Base == b.Base && a.Final == b.Final &&
		slices.Equal(a.Signers, b.Signers) && slices.Equal(a.Change, b.Change)
}

// P7.1, P7.2: what is read of the bytes of certificates, also of those that
// may not be; beside an error nothing is answered.
func TestParseEdges(t *testing.T) {
	for _, x := range edges {
		c := good()
		x.set(&c)
		s := c.Bytes()
		y, e := Parse(s)
		if e != x.read {
			t.Errorf("P7.1: %s: Parse %d, want %d", x.name, e, x.read)
		}
		if e != api.OK {
			if !reflect.DeepEqual(y, Cert{}) {
				t.Errorf("P7.1: %s: beside an error: %v", x.name, y)
			}
			continue
		}
		if y.Bytes() != s || x.check == api.OK && !same(y, c) || y.Check() != api.OK {
			t.Errorf("P7.2: %s: %v, want %v", x.name, y, c)
		}
	}
}

// P7.1: the bytes of certificates, field by field, and the name: numbers below
// 0 are those of 0, and all else stands as it is.
func TestBytes(t *testing.T) {
	for _, x := range []struct {
		c    Cert
		want string
	}{
		{good(), "\x01\x03\x01\x20" + names(9) + "\x01\x40" + names(1, 2) + "\x01\x03\x01\x01\x01\x05\x01\x28\x01\x02\x01\x01\x00\x01\x02\x01\x09"},
		{Cert{}, "\x00\x00\x00\x00\x00"},
		{Cert{Signers: []int{}, Change: []table.Entry{}}, "\x00\x00\x00\x00\x00"},
		{Cert{Instance: -1, Signers: []int{-1, math.MinInt, 0}, Change: []table.Entry{{Miner: -3, Power: -4}}}, "\x00\x00\x00\x01\x03\x00\x00\x00\x01\x01\x00\x00"},
		{Cert{Instance: math.MaxInt, Base: "b", Final: "\x00\xff"}, "\x08\x7f\xff\xff\xff\xff\xff\xff\xff\x01\x01b\x01\x02\x00\xff\x00\x00"},
		{Cert{Base: strings.Repeat("k", 300)}, "\x00\x02\x01\x2c" + strings.Repeat("k", 300) + "\x00\x00\x00"},
		{Cert{Signers: []int{300, 2, 2}, Change: []table.Entry{{Miner: 64, Power: 1<<40 + 1}, {Miner: 1, Power: 2}}}, "\x00\x00\x00\x01\x03\x02\x01\x2c\x01\x02\x01\x02\x01\x02\x01\x40\x06\x01\x00\x00\x00\x00\x01\x01\x01\x01\x02"},
		{Cert{Signers: make([]int, 256)}, "\x00\x00\x00\x02\x01\x00" + strings.Repeat("\x00", 256) + "\x00"},
		{Cert{Change: make([]table.Entry, 65)}, "\x00\x00\x00\x00\x01\x41" + strings.Repeat("\x00", 130)},
	} {
		if s := x.c.Bytes(); s != x.want {
			t.Errorf("P7.1: %v: %x, want %x", x.c, s, x.want)
		}
		if id := x.c.ID(); id != api.ID(sha256.Sum256([]byte(x.want))) {
			t.Errorf("P7.1: %v: ID %x", x.c, id)
		}
	}
}

// P7.2: bytes that are no certificate's, and what is told of them first.
func TestWrongBytes(t *testing.T) {
	ahead := "\x01\x03\x01\x20" + names(9) + "\x01\x20" + names(1)
	falls := "\x01\x03\x01\x20" + names(9) + "\x01\x40" + names(2, 1)
	long := "\x01\x03\x01\xa1" + strings.Repeat("k", 161) + "\x01\x20" + names(1)
	for _, x := range []struct {
		name, bytes string
		want        api.Errno
	}{
		{"neither signers nor changes", ahead + "\x00\x00", api.OK},
		{"none", "", api.ErrEnd},
		{"instance alone", "\x00", api.ErrEnd},
		{"base alone", "\x00\x01\x20" + names(9), api.ErrEnd},
		{"a byte of the base wanting", "\x00\x01\x20" + names(9)[:31], api.ErrEnd},
		{"neither list", ahead, api.ErrEnd},
		{"no changes", ahead + "\x00", api.ErrEnd},
		{"no signer", ahead + "\x01\x01", api.ErrEnd},
		{"64 signers, of which no byte is there", ahead + "\x01\x40", api.ErrEnd},
		{"64 signers, and a wrong number among what is there", ahead + "\x01\x40\x00\x09", api.ErrForm},
		{"65 signers, of which no byte is there", ahead + "\x01\x41", api.ErrBig},
		{"65 signers", ahead + "\x01\x41" + strings.Repeat("\x00", 66), api.ErrBig},
		{"a change without its power", ahead + "\x00\x01\x01\x01\x05", api.ErrEnd},
		{"64 changes, of which no byte is there", ahead + "\x00\x01\x40", api.ErrEnd},
		{"64 changes, and a wrong number among what is there", ahead + "\x00\x01\x40\x00\x02\x00", api.ErrForm},
		{"65 changes, of which no byte is there", ahead + "\x00\x01\x41", api.ErrBig},
		{"65 changes", ahead + "\x00\x01\x41" + strings.Repeat("\x00", 130), api.ErrBig},
		{"bytes left", ahead + "\x00\x00\x00", api.ErrForm},
		{"a whole certificate left", ahead + "\x00\x00" + ahead + "\x00\x00", api.ErrForm},
		{"final that falls", falls + "\x00\x00", api.ErrArg},
		{"final that falls, and bytes left", falls + "\x00\x00x", api.ErrForm},
		{"final that falls, and no changes", falls + "\x00", api.ErrEnd},
		{"final that falls, and 65 changes", falls + "\x00\x01\x41" + strings.Repeat("\x00", 130), api.ErrBig},
		{"base of 161 bytes", long + "\x00\x00", api.ErrBig},
		{"base of 161 bytes, then nothing", "\x01\x03\x01\xa1", api.ErrBig},
		{"base of 161 bytes, and a wrong number", long + "\x09", api.ErrBig},
		{"base of 160 bytes, then nothing", "\x01\x03\x01\xa0", api.ErrEnd},
		{"final of 161 bytes, then nothing", "\x01\x03\x00\x01\xa1", api.ErrBig},
		{"final of 160 bytes, then nothing", "\x01\x03\x00\x01\xa0", api.ErrEnd},
		{"instance 3 in two bytes", "\x02\x00\x03" + ahead[2:] + "\x00\x00", api.ErrForm},
		{"instance in nine bytes", "\x09" + ahead[2:] + "\x00\x00", api.ErrForm},
		{"instance 2^62, then nothing", "\x08\x40\x00\x00\x00\x00\x00\x00\x00", api.ErrEnd},
		{"instance 2^62 + 1, then nothing", "\x08\x40\x00\x00\x00\x00\x00\x00\x01", api.ErrBig},
		{"instance 2^63", "\x08\x80\x00\x00\x00\x00\x00\x00\x00", api.ErrForm},
		{"how many changes, in a wrong form", ahead + "\x00\x02\x00\x01\x00\x00", api.ErrForm},
		{"how many signers, in a wrong form", ahead + "\x01\x00\x00", api.ErrForm},
	} {
		c, e := Parse(x.bytes)
		if e != x.want || e != api.OK && !reflect.DeepEqual(c, Cert{}) {
			t.Errorf("P7.2: %s: %v, %d, want %d", x.name, c, e, x.want)
		}
	}
}

// P7.2: of bytes that were changed anywhere there is no certificate, or one
// whose bytes they are; each beginning of them is told to be too short.
func TestOneCertAlone(t *testing.T) {
	s := good().Bytes()
	for i := range len(s) {
		if c, e := Parse(s[:i]); e != api.ErrEnd || !reflect.DeepEqual(c, Cert{}) {
			t.Errorf("P7.2: the first %d bytes: %v, %d", i, c, e)
		}
		for b := range 256 {
			changed := s[:i] + string([]byte{byte(b)}) + s[i+1:]
			c, e := Parse(changed)
			if e == api.OK && c.Bytes() != changed || e != api.OK && !reflect.DeepEqual(c, Cert{}) {
				t.Errorf("P7.2: byte %d as %02x is read as %v, %d", i, b, c, e)
			}
		}
	}
	if _, e := Parse(strings.Repeat("\xff", 200)); e != api.ErrForm {
		t.Errorf("P7.2: bytes of no form: %d", e)
	}
}

// P7.1: certificates of which a field differs have unlike names.
func TestID(t *testing.T) {
	seen := map[api.ID]int{good().ID(): 1}
	for _, set := range []func(c *Cert){
		func(c *Cert) { c.Instance++ },
		func(c *Cert) { c.Base, c.Final = c.Final, c.Base },
		func(c *Cert) { c.Base, c.Final = c.Base+c.Final[:32], c.Final[32:] },
		func(c *Cert) { c.Signers = c.Signers[:2] },
		func(c *Cert) { c.Signers[2]++ },
		func(c *Cert) { c.Change = c.Change[:1] },
		func(c *Cert) { c.Change[0].Miner = 0 },
		func(c *Cert) { c.Change[1].Power++ },
		func(c *Cert) { c.Change = nil },
		func(c *Cert) { c.Signers, c.Change = nil, append([]table.Entry{{Miner: 0, Power: 5}}, c.Change...) },
	} {
		c := good()
		set(&c)
		seen[c.ID()]++
	}
	if len(seen) != 11 {
		t.Errorf("P7.1: %d names of 11 certificates", len(seen))
	}
}

// made answers the table of entries.
func made(t *testing.T, l ...table.Entry) table.Table {
	t.Helper()
	x, e := table.New(l...)
	if e != api.OK {
		t.Fatalf("no table of %v: %d", l, e)
	}
	return x
}

// P7.1: the table behind a certificate; what is told where there is none: too
// few signers ahead of changes that may not be.
func TestNext(t *testing.T) {
	x := made(t, table.Entry{Miner: 1, Power: 10}, table.Entry{Miner: 5, Power: 10}, table.Entry{Miner: 7, Power: 10})
	away := []table.Entry{{Miner: 1}, {Miner: 5}, {Miner: 7}}
	falls := []table.Entry{{Miner: 5, Power: 2}, {Miner: 1, Power: 2}}
	for _, c := range []struct {
		name    string
		signers []int
		change  []table.Entry
		want    []table.Entry
		e       api.Errno
	}{
		{"all", []int{1, 5, 7}, []table.Entry{{Miner: 1}, {Miner: 2, Power: 4}}, []table.Entry{{Miner: 2, Power: 4}, {Miner: 5, Power: 10}, {Miner: 7, Power: 10}}, api.OK},
		{"all, and others", []int{0, 1, 5, 7, 63}, nil, []table.Entry{{Miner: 1, Power: 10}, {Miner: 5, Power: 10}, {Miner: 7, Power: 10}}, api.OK},
		{"all, in another order and twice", []int{7, 1, 7, 5, 64, -1}, []table.Entry{{Miner: 63, Power: 1 << 40}}, []table.Entry{{Miner: 1, Power: 10}, {Miner: 5, Power: 10}, {Miner: 7, Power: 10}, {Miner: 63, Power: 1 << 40}}, api.OK},
		{"two thirds", []int{1, 7}, nil, nil, api.ErrQuorum},
		{"two thirds, twice", []int{1, 7, 1, 7}, nil, nil, api.ErrQuorum},
		{"two thirds, and who comes by it", []int{1, 2, 7}, []table.Entry{{Miner: 2, Power: 1 << 40}}, nil, api.ErrQuorum},
		{"nobody", nil, nil, nil, api.ErrQuorum},
		{"nobody, and changes that may not be", nil, entries(65), nil, api.ErrQuorum},
		{"nobody, and changes that fall", nil, falls, nil, api.ErrQuorum},
		{"two thirds, and nobody left", []int{1, 5}, away, nil, api.ErrQuorum},
		{"nobody left", []int{1, 5, 7}, away, nil, api.ErrNone},
		{"65 changes", []int{1, 5, 7}, entries(65), nil, api.ErrBig},
		{"changes that fall", []int{1, 5, 7}, falls, nil, api.ErrArg},
		{"a power below 0", []int{1, 5, 7}, []table.Entry{{Miner: 1, Power: -1}}, nil, api.ErrArg},
		{"65 signers, with all among them", miners(65), nil, []table.Entry{{Miner: 1, Power: 10}, {Miner: 5, Power: 10}, {Miner: 7, Power: 10}}, api.OK},
	} {
		y, e := Cert{Signers: c.signers, Change: c.change}.Next(x)
		if e != c.e || !slices.Equal(y.Entries(), c.want) {
			t.Errorf("P7.1: %s: %v, %d, want %v, %d", c.name, y.Entries(), e, c.want, c.e)
		}
	}
	if x.Total() != 30 {
		t.Errorf("P7.1: the table itself is %v", x.Entries())
	}
}

// P7.1: a certificate without signers is signed by too few, whatever the
// table, and of a zero one any is.
func TestNoSigners(t *testing.T) {
	for _, x := range []table.Table{{}, made(t, table.Entry{Miner: 0, Power: 1}), made(t, entries(64)...)} {
		c := good()
		c.Signers = nil
		if y, e := c.Next(x); e != api.ErrQuorum || y != (table.Table{}) {
			t.Errorf("P7.1: %v: %d", x.Entries(), e)
		}
	}
	for _, signers := range [][]int{{0}, {1, 5, 40}, miners(64)} {
		c := good()
		c.Signers = signers
		if _, e := c.Next(table.Table{}); e != api.ErrQuorum {
			t.Errorf("P7.1: a zero Table, %v: %d", signers, e)
		}
	}
}

// P7.1: no call changes what it is handed, or the spare room behind it.
func TestNothingChanged(t *testing.T) {
	signers, change := []int{40, 1, 1, 7}, []table.Entry{{Miner: 9, Power: 1}, {Miner: 2}, {Miner: 2, Power: 3}}
	asked, wanted := slices.Clone(signers), slices.Clone(change)
	c := good()
	c.Signers, c.Change = signers[:3], change[:2]
	c.Check()
	c.Bytes()
	c.ID()
	c.Next(made(t, entries(64)...))
	if !slices.Equal(signers, asked) || !slices.Equal(change, wanted) {
		t.Errorf("P7.1: %v, %v, want %v, %v", signers, change, asked, wanted)
	}
}

// inside tells whether a text's bytes stand among those of another one.
func inside(part, whole string) bool {
	at, from := uintptr(unsafe.Pointer(unsafe.StringData(part))), uintptr(unsafe.Pointer(unsafe.StringData(whole)))
	return at >= from && at < from+uintptr(len(whole))
}

// P7.2: what is answered shares nothing with what was asked, or with another
// answer.
func TestNothingShared(t *testing.T) {
	s := good().Bytes()
	a, _ := Parse(s)
	b, _ := Parse(s)
	if inside(a.Base, s) || inside(a.Final, s) || inside(a.Base, b.Base) || inside(a.Final, b.Final) {
		t.Error("P7.2: Parse's keys stand in the bytes, or in another answer")
	}
	a.Signers[0], a.Change[0].Power = 63, 99
	if c, e := Parse(s); e != api.OK || !same(b, good()) || !same(c, good()) {
		t.Error("P7.2: answers of Parse share memory")
	}
	base := []table.Entry{{Miner: 1, Power: 5}}
	x, _ := Cert{Signers: []int{1}, Change: base}.Next(made(t, table.Entry{Miner: 1, Power: 2}))
	base[0].Power = 99
	if x.Power(1) != 5 {
		t.Error("P7.1: Next keeps the changes")
	}
}
