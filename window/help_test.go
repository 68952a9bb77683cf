package window

import (
	"fmt"
	"math"
	"reflect"
	"strconv"
	"strings"
	"testing"

	"catenary/api"
)

const (
	// open is Window, mostSlot MaxSlot, refused ErrWindow, as the document has them.
	open     = 16
	mostSlot = 1000000
	refused  = 171
)

// row is a slot, and what is to be known of it.
type row struct {
	slot int
	api.Slot
}

// ask is one of the three calls that make something known, and how it changes what is known of a slot.
type ask struct {
	name string
	do   func(w *Window, b api.Ballot, slot int, r api.Req, votes ...api.Vote) api.Errno
	put  func(s api.Slot, b api.Ballot, r api.Req, votes ...api.Vote) api.Slot
}

// voting takes no votes: what is handed to it beside the request counts for nothing.
func voting() ask {
	return ask{"Vote", func(w *Window, b api.Ballot, slot int, r api.Req, _ ...api.Vote) api.Errno {
		return w.Vote(b, slot, r)
	}, func(s api.Slot, b api.Ballot, r api.Req, _ ...api.Vote) api.Slot {
		s.HasVote, s.Voted, s.Vote = true, b, r
		return s
	}}
}

func preparing() ask {
	return ask{"Prep", (*Window).Prep, func(s api.Slot, b api.Ballot, r api.Req, votes ...api.Vote) api.Slot {
		s.HasPrep, s.Prepared, s.Prep, s.Cert = true, b, r, votes
		return s
	}}
}

func doing() ask {
	return ask{"Done", (*Window).Done, func(s api.Slot, b api.Ballot, r api.Req, votes ...api.Vote) api.Slot {
		s.HasDone, s.Done, s.Ballot, s.Votes = true, r, b, votes
		return s
	}}
}

func asks() []ask { return []ask{voting(), preparing(), doing()} }

// now is a slot's row of which nothing is known but what the call makes known.
func (a ask) now(slot int, b api.Ballot, r api.Req, votes ...api.Vote) row {
	return row{slot, a.put(api.Slot{}, b, r, votes...)}
}

// answers asks for an error's number.
func answers(t *testing.T, what string, got api.Errno, want int) {
	t.Helper()
	if int(got) != want {
		t.Fatalf("%s: answered %d; want %d", what, int(got), want)
	}
}

// slotsFor are those in and about a window above low, and some that are far from it; some would be open in 32 bits.
func slotsFor(low int) []int {
	out := []int{math.MinInt, math.MinInt + 1, math.MinInt + 17, -1 << 32, low + 1 - 1<<32, -low - 1, -17, -16, -1, 0, math.MaxInt32, 1<<32 + low + 1, math.MaxInt - 1, math.MaxInt}
	for i := -18; i <= 34; i++ {
		out = append(out, low+i)
	}
	return out
}

// holds asks for all that a window tells: that it is above low, and that just these rows, which rise, are known. It asks twice: asking changes nothing.
func holds(t *testing.T, what string, w *Window, low int, rows ...row) {
	t.Helper()
	for range 2 {
		if got, want := seen(w, low), wanted(low, rows); got != want {
			t.Fatalf("%s: the window tells %s\nwant %s", what, got, want)
		}
	}
}

// seen writes out what a window tells; a list that is nil and an empty one are written the same.
func seen(w *Window, low int) string {
	var out strings.Builder
	fmt.Fprintf(&out, "low %d, slots %v, preps %+v", w.Low(), w.Slots(), w.Preps())
	for _, slot := range slotsFor(low) {
		out.WriteString(line(slot, w.In(slot), w.At(slot)))
	}
	return out.String()
}

// nothing is what is written of a slot of which nothing is known: that is so of most, and writing it anew is slow.
var nothing = fmt.Sprintf("%+v", api.Slot{})

// line writes a slot out.
func line(slot int, in bool, s api.Slot) string {
	known := nothing
	if !reflect.ValueOf(s).IsZero() {
		known = fmt.Sprintf("%+v", s)
	}
	return "\n" + strconv.Itoa(slot) + " " + strconv.FormatBool(in) + " " + known
}

// wanted is what seen is to write.
func wanted(low int, rows []row) string {
	slots, preps, known := []int{}, []api.Prep{}, map[int]api.Slot{}
	for _, r := range rows {
		slots, known[r.slot] = append(slots, r.slot), r.Slot
		if r.HasPrep {
			preps = append(preps, api.Prep{Slot: r.slot, Ballot: r.Prepared, Req: r.Prep, Cert: r.Cert})
		}
	}
	var out strings.Builder
	fmt.Fprintf(&out, "low %d, slots %v, preps %+v", low, slots, preps)
	for _, slot := range slotsFor(low) {
		out.WriteString(line(slot, isOpen(slot, low), known[slot]))
	}
	return out.String()
}

// isOpen counts the slots above low, one by one.
func isOpen(slot, low int) bool {
	for i := range open {
		if slot == low+1+i {
			return true
		}
	}
	return false
}

// one and two are ballots, the second above the first.
var (
	one = api.Ballot{View: 1, Turn: 3}
	two = api.Ballot{View: 2, Turn: 1}
)

// a is a request, others are requests that differ from it in one field alone, and one that differs in all.
func a() api.Req { return api.Req{Client: 1, Stamp: 2, Op: []byte("op"), Sig: []byte("sig")} }

func others() []api.Req {
	change := func(f func(r *api.Req)) api.Req {
		r := a()
		f(&r)
		return r
	}
	return []api.Req{
		change(func(r *api.Req) { r.Client = 2 }),
		change(func(r *api.Req) { r.Client = 1<<32 + 1 }),
		change(func(r *api.Req) { r.Client = -1 }),
		change(func(r *api.Req) { r.Stamp = 1 }),
		change(func(r *api.Req) { r.Stamp = 1<<32 + 2 }),
		change(func(r *api.Req) { r.Stamp = math.MinInt }),
		change(func(r *api.Req) { r.Op = []byte("oq") }),
		change(func(r *api.Req) { r.Op = []byte("o") }),
		change(func(r *api.Req) { r.Op = []byte("op\x00") }),
		change(func(r *api.Req) { r.Op = nil }),
		change(func(r *api.Req) { r.Sig = []byte("rig") }),
		change(func(r *api.Req) { r.Sig = []byte("si") }),
		change(func(r *api.Req) { r.Sig = []byte("sigs") }),
		change(func(r *api.Req) { r.Sig = nil }),
		change(func(r *api.Req) { r.Op, r.Sig = []byte("ops"), []byte("ig") }),
		change(func(r *api.Req) { r.Op, r.Sig = r.Sig, r.Op }),
		change(func(r *api.Req) { r.Client, r.Stamp = r.Stamp, r.Client }),
		{},
	}
}

// b is the request that differs from a in the Sig alone.
func b() api.Req { return api.Req{Client: 1, Stamp: 2, Op: []byte("op"), Sig: []byte("gis")} }

// certs are lists of votes of all kinds: nobody asks whether they are right.
func certs() [][]api.Vote {
	many := make([]api.Vote, 70)
	for i := range many {
		many[i] = api.Vote{Signer: i, Sig: []byte{byte(i)}}
	}
	return [][]api.Vote{
		{{Signer: 3, Sig: []byte("three")}}, nil, {{Signer: 0}}, {},
		{{Signer: 2, Sig: []byte("y")}, {Signer: 1, Sig: []byte("x")}, {Signer: 2, Sig: []byte("y")}},
		{{Signer: math.MinInt, Sig: []byte{}}, {Signer: math.MaxInt, Sig: []byte("z")}}, many,
	}
}
