package script

import (
	"bytes"
	"slices"
	"strings"

	"coxswain/api"
	"coxswain/digest"
	"coxswain/header"
)

const root = "root" // what the genesis block is called, and no other one

// block is a header's bytes, and their name.
type block struct {
	id    api.ID
	bytes string
}

// blockOf answers a header, which may be none that comes in, as a block.
func blockOf(h header.Header) block { return block{id: h.ID(), bytes: h.Bytes()} }

// firstNames answers the names of a new world.
func firstNames() map[string]block { return map[string]block{root: blockOf(header.Genesis())} }

// call makes a name that of a block, whatever it was ahead.
func (w *World) call(b block, name string) {
	if name != root {
		w.names[strings.Clone(name)] = b
	}
}

// called answers what the block of that name is called: of several names the
// least one; of none the digits that its name begins with.
func (w *World) called(id api.ID) string {
	least, is := "", false
	for name, b := range w.names {
		if b.id == id && (!is || name < least) {
			least, is = name, true
		}
	}
	if !is {
		return digest.Short(id)
	}
	return least
}

// known answers the blocks of names, each of which is to be there.
func (w *World) known(names []string) ([]block, api.Errno) {
	var l []block
	for _, name := range names {
		b, there := w.names[name]
		if !there {
			return nil, api.ErrNone
		}
		l = append(l, b)
	}
	return l, api.OK
}

// ids answers the blocks' names.
func ids(l []block) []api.ID {
	var names []api.ID
	for _, b := range l {
		names = append(names, b.id)
	}
	return names
}

// key answers the key of blocks.
func key(l []block) string { return header.Key(ids(l)...) }

// sorted answers the blocks' names, rising, each once, also where these are
// none or too many for a key to be read back.
func sorted(l []block) []api.ID {
	names := ids(l)
	slices.SortFunc(names, func(a, b api.ID) int { return bytes.Compare(a[:], b[:]) })
	return slices.Compact(names)
}
