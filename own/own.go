// Package own answers what shares no memory with what was handed in.
package own

import (
	"slices"
	"strings"

	"coxswain/header"
)

// Header answers the same header in memory of its own.
func Header(h header.Header) header.Header {
	h.Ticket = strings.Clone(h.Ticket)
	h.Parents = slices.Clone(h.Parents)
	return h
}
