// Package codec is layer 1: fields as bytes, each in one way alone.
package codec

import (
	"math"
	"math/bits"
	"strings"

	"coxswain/api"
)

// longest is how many bytes of a number may follow the first one.
const longest = 8

// Out is what is written. A zero Out is one of nothing.
type Out struct{ bytes []byte }

// Num writes a number (one below 0 counts as 0).
func (o *Out) Num(x int) *Out {
	x = max(x, 0)
	size := (bits.Len(uint(x)) + 7) / 8
	o.bytes = append(o.bytes, byte(size))
	for i := range size {
		o.bytes = append(o.bytes, byte(x>>(8*(size-1-i))))
	}
	return o
}

// Text writes a text's length, and it.
func (o *Out) Text(s string) *Out { return o.Num(len(s)).Raw(s) }

// Raw writes bytes alone.
func (o *Out) Raw(s string) *Out {
	o.bytes = append(o.bytes, s...)
	return o
}

// Bytes answers all that was written.
func (o *Out) Bytes() string { return string(o.bytes) }

// In is what is taken, from the first byte on. Behind an error left is empty,
// so that every later call finds nothing to take.
type In struct {
	left string
	err  api.Errno
}

// Of answers an In of bytes. They are copied, here and in Raw: what is handed
// in isn't kept, and what is answered shares no memory with it.
func Of(s string) *In { return &In{left: strings.Clone(s)} }

// Num takes a number that is at most most.
func (in *In) Num(most int) int {
	x, size, e := number(in.left)
	if e == api.OK && x > most {
		e = api.ErrBig
	}
	if e != api.OK {
		in.Fail(e)
		return 0
	}
	in.left = in.left[size:]
	return x
}

// number answers the number that s begins with, and how many bytes it takes.
// What is wrong is told as soon as the bytes that show it are there, so a form
// that can't be comes ahead of bytes that are wanting behind it.
func number(s string) (int, int, api.Errno) {
	if len(s) == 0 {
		return 0, 0, api.ErrEnd
	}
	size := int(s[0])
	switch {
	case size == 0:
		return 0, 1, api.OK
	case size > longest:
		return 0, 0, api.ErrForm
	case len(s) == 1:
		return 0, 0, api.ErrEnd
	case s[1] == 0:
		return 0, 0, api.ErrForm
	case len(s) <= size:
		return 0, 0, api.ErrEnd
	}
	x := uint64(0)
	for i := range size {
		x = x<<8 | uint64(s[1+i])
	}
	if x > math.MaxInt64 {
		return 0, 0, api.ErrForm
	}
	return int(x), 1 + size, api.OK
}

// Text takes a text of at most most bytes (a most below 0 counts as 0).
func (in *In) Text(most int) string { return in.Raw(in.Num(max(most, 0))) }

// Raw takes n bytes (an n below 0 counts as 0).
func (in *In) Raw(n int) string {
	n = max(n, 0)
	if n > len(in.left) {
		in.Fail(api.ErrEnd)
		return ""
	}
	s := strings.Clone(in.left[:n])
	in.left = in.left[n:]
	return s
}

// Count takes how many things of a byte or more follow.
func (in *In) Count(most int) int {
	n := in.Num(most)
	if n > len(in.left) {
		in.Fail(api.ErrEnd)
		return 0
	}
	return n
}

// Left answers how many bytes are left.
func (in *In) Left() int { return len(in.left) }

// Err answers the first error.
func (in *In) Err() api.Errno { return in.err }

// Fail makes e the first error, if there was none.
func (in *In) Fail(e api.Errno) {
	if e == api.OK || in.err != api.OK {
		return
	}
	in.err = e
	in.left = ""
}

// End answers the first error, else whether bytes are left. It changes
// nothing: what is left may still be taken.
func (in *In) End() api.Errno {
	if in.left != "" {
		return api.ErrForm
	}
	return in.err
}
