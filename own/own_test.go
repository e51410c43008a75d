package own

import (
	"reflect"
	"testing"
	"unsafe"

	"coxswain/api"
	"coxswain/header"
)

// A header is answered as it is, also one that may not be, and shares neither
// its ticket's nor its parents' memory.
func TestHeader(t *testing.T) {
	for _, h := range []header.Header{
		{}, header.Genesis(), {Height: -1, Miner: -2, Wins: -3, Salt: -4, Parents: []api.ID{}},
		{Height: 7, Miner: 3, Ticket: "tk", Wins: 2, Power: 300, Parents: []api.ID{{2}, {1}, {2}}, Salt: 9},
	} {
		x := Header(h)
		if !reflect.DeepEqual(x, h) {
			t.Errorf("%v: %v", h, x)
		}
		if len(h.Ticket) > 0 && unsafe.StringData(x.Ticket) == unsafe.StringData(h.Ticket) {
			t.Error("tickets share memory")
		}
		if len(h.Parents) > 0 && &x.Parents[0] == &h.Parents[0] {
			t.Error("parents share memory")
		}
	}
}

// What stands behind the parents that are handed in is never changed.
func TestSpareRoom(t *testing.T) {
	room := []api.ID{{1}, {2}, {3}}
	x := Header(header.Header{Parents: room[:1]})
	x.Parents = append(x.Parents, api.ID{9})
	x.Parents[0] = api.ID{8}
	if room[0] != (api.ID{1}) || room[1] != (api.ID{2}) || room[2] != (api.ID{3}) {
		t.Errorf("spare room: %v", room)
	}
}
