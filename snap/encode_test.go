package snap

import (
	"bytes"
	"math/rand"
	"slices"
	"testing"

	"catenary/api"
)

func TestError(t *testing.T) { // the section Errors
	if int(api.ErrSnap) != 101 {
		t.Errorf("ErrSnap is %d", int(api.ErrSnap))
	}
	if b, e := Encode(api.App{Slot: -1}); int(e) != 101 || len(b) != 0 {
		t.Errorf("Encode of a state that isn't right: %v, %v", b, e)
	}
	if a, e := Decode([]byte("no state")); int(e) != 101 || !sameState(a, api.App{}) {
		t.Errorf("Decode of bytes that are no state: %v, %v", a, e)
	}
}

// spelt are states with their bytes, written out.
func spelt() map[string]struct {
	a api.App
	b []byte
} {
	return map[string]struct {
		a api.App
		b []byte
	}{
		"the beginning": {api.App{}, []byte{0, 0, 0, 0}},
		"empty lists":   {api.App{Entries: []api.Entry{}, Leases: []api.Lease{}, Sessions: []api.Session{}}, []byte{0, 0, 0, 0}},
		"a Slot":        {api.App{Slot: 127}, []byte{127, 0, 0, 0}},
		"a longer Slot": {api.App{Slot: 128}, []byte{128, 1, 0, 0, 0}},
		"the last Slot": {api.App{Slot: 1000000}, []byte{192, 132, 61, 0, 0, 0}},
		"an entry":      {api.App{Entries: []api.Entry{{Name: []byte("n"), Value: []byte("vw")}}}, []byte{0, 1, 1, 'n', 2, 'v', 'w', 0, 0}},
		"no Value":      {api.App{Entries: []api.Entry{{Name: []byte{0}}}}, []byte{0, 1, 1, 0, 0, 0, 0}},
		"a lease":       {api.App{Leases: []api.Lease{{Name: []byte("nm"), Owner: 3, Until: 300}}}, []byte{0, 0, 1, 2, 'n', 'm', 3, 172, 2, 0}},
		"a session":     {api.App{Sessions: []api.Session{{Client: 4, Stamp: 130, Result: api.Result{Code: 5, Value: []byte("v")}}}}, []byte{0, 0, 0, 1, 4, 130, 1, 5, 1, 'v'}},
		"the longest":   {api.App{Leases: []api.Lease{{Name: []byte("n"), Owner: 1, Until: 2147483647}}}, []byte{0, 0, 1, 1, 'n', 1, 255, 255, 255, 255, 7, 0}},
		"some": {some(), []byte{
			172, 2,
			3, 1, 'a', 2, 'x', 'y', 2, 'a', 'a', 0, 1, 'b', 3, 0, 255, 128,
			2, 1, 'a', 2, 9, 1, 'l', 4, 255, 255, 255, 255, 7,
			3, 1, 5, 4, 1, 7, 2, 128, 1, 0, 0, 4, 255, 255, 255, 255, 7, 6, 4, 'l', 'a', 's', 't',
		}},
	}
}

func TestSpelt(t *testing.T) { // P10.1
	for what, c := range spelt() {
		if b, e := Encode(c.a); e != api.OK || !bytes.Equal(b, c.b) {
			t.Errorf("%s: Encode(%v) = %v, %v; want %v", what, c.a, b, e, c.b)
		}
		if a, e := Decode(c.b); e != api.OK || !sameState(a, c.a) {
			t.Errorf("%s: Decode(%v) = %v, %v; want %v", what, c.b, a, e, c.a)
		}
		takes(t, c.a)
	}
}

func TestMost(t *testing.T) { // P10.1: the greatest state, and how long its bytes are
	takes(t, most())
	if b, _ := Encode(most()); len(b) != 3+1+64*(17+65)+1+16*(17+1+5)+1+4*(1+5+1+65) {
		t.Errorf("the greatest state has %d bytes", len(b))
	}
}

func TestManyStates(t *testing.T) { // P10.1
	for _, a := range rightStates() {
		takes(t, a)
	}
	draw := rand.New(rand.NewSource(10))
	for range 2000 {
		takes(t, drawn(draw))
	}
}

func TestUnlikeStates(t *testing.T) { // P10.1: unlike states have unlike bytes
	were := map[string]api.App{}
	draw := rand.New(rand.NewSource(11))
	states := rightStates()
	for range 2000 {
		states = append(states, drawn(draw))
	}
	for _, a := range states {
		b, _ := Encode(a)
		if other, was := were[string(b)]; was && !sameState(a, other) {
			t.Errorf("%v and %v have the same bytes", a, other)
		}
		were[string(b)] = a
	}
}

func TestSlots(t *testing.T) { // P10.1
	for _, a := range []api.App{{}, some(), most()} {
		for _, n := range around() {
			a.Slot = n
			takesIf(t, 0 <= n && n <= lastSlot, "a Slot", a)
		}
	}
}

// places are those of one entry, lease or session in lists of some lengths.
func places(lengths ...int) [][2]int {
	var out [][2]int
	for _, many := range lengths {
		for at := range many {
			out = append(out, [2]int{many, at})
		}
	}
	return out
}

func TestEntries(t *testing.T) { // P10.1: at each place
	for _, place := range places(1, 2, 3, 64) {
		many, at := place[0], place[1]
		try := func(may bool, what string, change func(l []api.Entry)) {
			t.Helper()
			for _, a := range []api.App{{}, some()} {
				a.Entries = manyEntries(many, 2, 3)
				change(a.Entries)
				takesIf(t, may, what, a)
			}
		}
		for _, size := range []int{1, 2, 15, 16, 17, 18, 64, 127, 128, 256, 300} {
			try(size <= 16, "a Name of some size", func(l []api.Entry) { l[at].Name = []byte(name(at, size)) })
		}
		for _, size := range []int{0, 1, 63, 64, 65, 66, 127, 128, 256, 320} {
			try(size <= 64, "a Value of some size", func(l []api.Entry) { l[at].Value = text(size) })
		}
		try(false, "no Name", func(l []api.Entry) { l[at].Name = nil })
		if at > 0 {
			try(false, "one Name twice", func(l []api.Entry) { l[at].Name = l[at-1].Name })
			try(false, "one entry twice", func(l []api.Entry) { l[at] = l[at-1] })
			try(false, "two turned round", func(l []api.Entry) { l[at], l[at-1] = l[at-1], l[at] })
			try(false, "the first one again", func(l []api.Entry) { l[at] = l[0] })
		}
	}
}

func TestLeases(t *testing.T) { // P10.1: at each place
	for _, place := range places(1, 2, 3, 16) {
		many, at := place[0], place[1]
		try := func(may bool, what string, change func(l []api.Lease)) {
			t.Helper()
			for _, a := range []api.App{{}, some()} {
				a.Leases = manyLeases(many, 2, 300)
				change(a.Leases)
				takesIf(t, may, what, a)
			}
		}
		for _, size := range []int{1, 2, 15, 16, 17, 18, 64, 127, 128, 256, 300} {
			try(size <= 16, "a Name of some size", func(l []api.Lease) { l[at].Name = []byte(name(at, size)) })
		}
		for _, n := range around() {
			try(1 <= n && n <= 4, "an Owner", func(l []api.Lease) { l[at].Owner = n })
			try(1 <= n && n <= lastInt, "an Until", func(l []api.Lease) { l[at].Until = n })
		}
		try(false, "no Name", func(l []api.Lease) { l[at].Name = nil })
		if at > 0 {
			try(false, "one Name twice", func(l []api.Lease) { l[at].Name = l[at-1].Name })
			try(false, "one lease twice", func(l []api.Lease) { l[at] = l[at-1] })
			try(false, "two turned round", func(l []api.Lease) { l[at], l[at-1] = l[at-1], l[at] })
			try(false, "the first one again", func(l []api.Lease) { l[at] = l[0] })
		}
	}
}

func TestSessions(t *testing.T) { // P10.1: at each place
	for _, place := range places(1, 2, 3, 4) {
		many, at := place[0], place[1]
		try := func(may bool, what string, change func(l []api.Session)) {
			t.Helper()
			for _, a := range []api.App{{}, some()} {
				a.Sessions = manySessions(many, 300, 3)
				change(a.Sessions)
				takesIf(t, may, what, a)
			}
		}
		for _, n := range around() {
			// The others are the clients 1 to many but the one at this place.
			rises := n > at && n <= 4 && (n == at+1 || at+1 == many)
			try(rises, "a Client", func(l []api.Session) { l[at].Client = n })
			try(1 <= n && n <= lastInt, "a Stamp", func(l []api.Session) { l[at].Stamp = n })
			try(0 <= n && n <= 6, "a Code", func(l []api.Session) { l[at].Result.Code = n })
		}
		for _, size := range []int{0, 1, 63, 64, 65, 66, 127, 128, 256, 320} {
			try(size <= 64, "a Value of some size", func(l []api.Session) { l[at].Result.Value = text(size) })
		}
		if at > 0 {
			try(false, "one session twice", func(l []api.Session) { l[at] = l[at-1] })
			try(false, "two turned round", func(l []api.Session) { l[at], l[at-1] = l[at-1], l[at] })
		}
	}
}

func TestCounts(t *testing.T) { // P10.1: as many as can be, and more
	for _, a := range []api.App{{}, some(), most()} {
		for many := range 140 {
			b := a
			b.Entries = manyEntries(many, 1, 1)
			takesIf(t, many <= 64, "entries", b)
			b = a
			b.Leases = manyLeases(many, 1, 9)
			takesIf(t, many <= 16, "leases", b)
			b = a
			b.Sessions = manySessions(many, 9, 1)
			takesIf(t, many <= 4, "sessions", b)
		}
		a.Sessions = slices.Repeat(manySessions(4, 9, 1), 1000)
		refuses(t, "very many sessions", a)
	}
	// Spare room isn't counted.
	full := most()
	full.Entries = manyEntries(70, 1, 1)[:64]
	full.Leases = manyLeases(20, 1, 9)[:16]
	full.Sessions = manySessions(9, 9, 1)[:4]
	takes(t, full)
}
