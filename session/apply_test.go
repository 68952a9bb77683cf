package session

import (
	"math"
	"slices"
	"testing"

	"catenary/api"
)

func TestExample(t *testing.T) { // P9.3: the chapter's
	r := ask(1, 1, put("a", "5"))
	one := api.App{Slot: 1, Entries: []api.Entry{entry("a", "5")}, Sessions: []api.Session{seen(1, 1, api.Yes, "")}}
	gives(t, api.App{}, r, one, api.Yes, "", true)
	gives(t, one, r, at(one, 2), api.Yes, "", false)
}

func TestZeroRequest(t *testing.T) { // P9.3
	for _, r := range []api.Req{{}, {Op: []byte{}}, {Sig: []byte{}}, {Op: []byte{}, Sig: []byte{}}, {Op: []byte("more")[:0], Sig: []byte("more")[:0]}} {
		passes(t, api.App{}, r, api.Yes, "")
		passes(t, some(), r, api.Yes, "")
		passes(t, at(some(), lastSlot-1), r, api.Yes, "")
		stays(t, at(some(), lastSlot), r)
	}
	// One field is enough to make it another.
	for _, r := range []api.Req{{Client: 1}, {Client: -1}, {Stamp: 1}, {Stamp: -1}, {Op: []byte{0}}, {Sig: []byte{0}}, {Op: spell(get("b"))}, {Sig: []byte("sig")}} {
		passes(t, api.App{}, r, api.Bad, "")
		passes(t, some(), r, api.Bad, "")
	}
}

func TestClients(t *testing.T) { // P9.3
	for _, a := range []api.App{{}, some(), sessionsOf(some()), at(some(), lastSlot-1)} {
		for _, o := range allOps("b") {
			for _, client := range noClients {
				for _, stamp := range append(stamps, noStamps...) {
					passes(t, a, ask(client, stamp, o), api.Bad, "")
				}
			}
			for client := 1; client <= 4; client++ {
				for _, stamp := range noStamps {
					passes(t, a, ask(client, stamp, o), api.Bad, "")
				}
			}
		}
	}
	for client := 1; client <= 4; client++ {
		for _, stamp := range stamps {
			a := sessionsOf(some())
			does(t, a, ask(client, stamp, get("b")), a, api.Yes, "1")
			does(t, api.App{}, ask(client, stamp, get("b")), api.App{}, api.Missing, "")
		}
	}
	// That the operation is none makes no difference there.
	for _, op := range noOps() {
		passes(t, some(), api.Req{Client: 0, Stamp: 1, Op: op}, api.Bad, "")
		passes(t, some(), api.Req{Client: 5, Stamp: 1, Op: op}, api.Bad, "")
		passes(t, some(), api.Req{Client: 1, Stamp: -1, Op: op}, api.Bad, "")
		passes(t, some(), api.Req{Client: 1, Stamp: lastStamp + 1, Op: op}, api.Bad, "")
	}
}

func TestStamps(t *testing.T) { // P9.3: below, equal to and above the session's, whatever is asked
	ops := append(noOps(), spell(get("b")), spell(put("b", "new")), spell(put("c", "new")), spell(del("d")), spell(acquire("a", 5)), spell(release("b")), spell(holder("f")))
	for client := 1; client <= 4; client++ {
		for _, stamp := range []int{1, 2, 3, 1000, lastStamp - 1, lastStamp} {
			for code := range 7 {
				value := string(text(code * 10))
				a := saw(some(), seen(client, stamp, code, value))
				for _, op := range ops {
					passes(t, a, api.Req{Client: client, Stamp: stamp, Op: op}, code, value)
					for _, lower := range []int{1, 2, stamp / 2, stamp - 2, stamp - 1} {
						if 1 <= lower && lower < stamp {
							passes(t, a, api.Req{Client: client, Stamp: lower, Op: op}, api.Old, "")
						}
					}
				}
				for _, higher := range []int{stamp + 1, stamp + 2, lastStamp} {
					if stamp < higher && higher <= lastStamp {
						does(t, a, ask(client, higher, put("b", "2")), entriesOf(a, entry("b", "2"), entry("d", ""), entry("f", "3")), api.Yes, "")
					}
				}
				passes(t, a, api.Req{Client: client, Stamp: lastStamp + 1, Op: spell(get("b"))}, api.Bad, "")
				passes(t, a, api.Req{Client: client, Stamp: 0, Op: spell(get("b"))}, api.Bad, "")
			}
		}
	}
}

func TestFirstRequests(t *testing.T) { // P9.3: ahead of, between and behind the other sessions, and instead of one
	for set := range 16 {
		var others []int
		for client := 1; client <= 4; client++ {
			if set&(1<<client>>1) != 0 {
				others = append(others, client)
			}
		}
		a := sessionsOf(some(), clients(others...)...)
		for client := 1; client <= 4; client++ {
			does(t, a, ask(client, 1000, get("f")), a, api.Yes, "3")
			does(t, a, api.Req{Client: client, Stamp: 1000}, a, api.Bad, "")
			// A first request may have any Stamp; others' sessions say nothing of it.
			if !slices.Contains(others, client) {
				does(t, a, ask(client, 1, get("f")), a, api.Yes, "3")
				does(t, a, ask(client, lastStamp, get("f")), a, api.Yes, "3")
			}
		}
	}
}

func TestNoOperation(t *testing.T) { // P9.3: Bad, but its Stamp is used up; no lease goes
	for _, op := range noOps() {
		for client := 1; client <= 4; client++ {
			r := api.Req{Client: client, Stamp: 1000, Op: op}
			does(t, some(), r, some(), api.Bad, "")
			does(t, api.App{}, r, api.App{}, api.Bad, "")
			does(t, at(some(), lastSlot-1), r, some(), api.Bad, "")
			behind, _, _ := Apply(some(), r)
			passes(t, behind, r, api.Bad, "")
			passes(t, behind, ask(client, 1000, put("b", "new")), api.Bad, "")
			passes(t, behind, ask(client, 999, put("b", "new")), api.Old, "")
		}
	}
}

func TestEntryKinds(t *testing.T) { // P9.3: the kinds up to OpDelete, on the Entries; leases that are over stay
	a := some()
	b, d, f := a.Entries[0], a.Entries[1], a.Entries[2]
	for client := 1; client <= 4; client++ {
		for _, c := range []struct {
			o     api.Op
			want  []api.Entry
			code  int
			value string
		}{
			{get("b"), a.Entries, api.Yes, "1"},
			{get("d"), a.Entries, api.Yes, ""},
			{get("a"), a.Entries, api.Missing, ""},
			{put("b", "new"), []api.Entry{entry("b", "new"), d, f}, api.Yes, ""},
			{put("c", "new"), []api.Entry{b, entry("c", "new"), d, f}, api.Yes, ""},
			{put("g", ""), []api.Entry{b, d, f, entry("g", "")}, api.Yes, ""},
			{cas("f", "3", "4"), []api.Entry{b, d, entry("f", "4")}, api.Yes, ""},
			{cas("f", "2", "4"), a.Entries, api.Differs, "3"},
			{cas("e", "", "4"), a.Entries, api.Missing, ""},
			{del("d"), []api.Entry{b, f}, api.Yes, ""},
			{del("e"), a.Entries, api.Missing, ""},
		} {
			does(t, a, ask(client, 1000, c.o), entriesOf(a, c.want...), c.code, c.value)
		}
	}
	long := entriesOf(a, entry(string(text(16)), string(text(64))))
	does(t, entriesOf(a), ask(1, 1, put(string(text(16)), string(text(64)))), long, api.Yes, "")
	does(t, long, ask(1, 1, get(string(text(16)))), long, api.Yes, string(text(64)))
}

func TestLeaseKinds(t *testing.T) { // P9.3: the kinds from OpAcquire on, on the Leases, with the new Slot as now: 10
	a := some()
	b, d := a.Leases[0], a.Leases[1]
	// At 10 the lease of f is over: it goes, whatever is asked.
	for _, c := range []struct {
		client int
		o      api.Op
		want   []api.Lease
		code   int
		value  string
	}{
		{1, holder("b"), []api.Lease{b, d}, api.Yes, value(2, 40)},
		{1, holder("d"), []api.Lease{b, d}, api.Yes, value(4, 1)},
		{1, holder("f"), []api.Lease{b, d}, api.Missing, ""},
		{1, acquire("a", 7), []api.Lease{held("a", 1, 17), b, d}, api.Yes, ""},
		{3, acquire("c", 1), []api.Lease{b, held("c", 3, 11), d}, api.Yes, ""},
		{4, acquire("f", 1000), []api.Lease{b, d, held("f", 4, 1010)}, api.Yes, ""},
		{1, acquire("f", 7), []api.Lease{b, d, held("f", 1, 17)}, api.Yes, ""},
		{1, acquire("d", 7), []api.Lease{b, d}, api.Held, value(4, 1)},
		{2, acquire("b", 7), []api.Lease{held("b", 2, 17), d}, api.Yes, ""},
		{2, renew("b", 300), []api.Lease{held("b", 2, 310), d}, api.Yes, ""},
		{4, renew("d", 1), []api.Lease{b, d}, api.Yes, ""},
		{3, renew("b", 7), []api.Lease{b, d}, api.Held, value(2, 40)},
		{1, renew("f", 7), []api.Lease{b, d}, api.Missing, ""},
		{4, release("d"), []api.Lease{b}, api.Yes, ""},
		{2, release("d"), []api.Lease{b, d}, api.Held, value(4, 1)},
		{1, release("f"), []api.Lease{b, d}, api.Missing, ""},
	} {
		does(t, a, ask(c.client, 1000, c.o), leasesOf(a, c.want...), c.code, c.value)
	}
}

func TestNowIsTheNewSlot(t *testing.T) { // P9.3: around a lease's Until
	for _, slot := range []int{0, 1, 2, 9, 999, 65535, lastSlot - 2, lastSlot - 1} {
		now := slot + 1
		for until := max(1, now-2); until <= now+2; until++ {
			a := api.App{Slot: slot, Leases: []api.Lease{held("a", 3, until)}}
			if until > now {
				does(t, a, ask(1, 1, holder("a")), a, api.Yes, value(3, until-now))
				does(t, a, ask(1, 1, acquire("a", 5)), a, api.Held, value(3, until-now))
				does(t, a, ask(3, 1, renew("a", 5)), leasesOf(a, held("a", 3, now+5)), api.Yes, "")
			} else {
				does(t, a, ask(1, 1, holder("a")), leasesOf(a), api.Missing, "")
				does(t, a, ask(1, 1, acquire("a", 1000)), leasesOf(a, held("a", 1, now+1000)), api.Yes, "")
				does(t, a, ask(3, 1, renew("a", 5)), leasesOf(a), api.Missing, "")
			}
			does(t, a, ask(3, 1, put("a", "5")), entriesOf(a, entry("a", "5")), api.Yes, "")
		}
	}
}

func TestFull(t *testing.T) { // P9.3: of each list its own
	a := some()
	a.Entries, a.Leases = nil, nil
	for i := range 64 {
		a.Entries = append(a.Entries, entry("n"+string([]byte{byte(i)}), "v"))
	}
	for i := range 16 {
		a.Leases = append(a.Leases, held("n"+string([]byte{byte(i)}), 1, 50))
	}
	does(t, a, ask(1, 1, put("z", "1")), a, api.Full, "")
	does(t, a, ask(1, 1, acquire("z", 5)), a, api.Full, "")
	less := entriesOf(a, a.Entries[1:]...)
	does(t, less, ask(1, 1, put("z", "1")), entriesOf(less, append(slices.Clone(less.Entries), entry("z", "1"))...), api.Yes, "")
	does(t, less, ask(1, 1, acquire("z", 5)), less, api.Full, "")
	less = leasesOf(a, a.Leases[1:]...)
	does(t, less, ask(1, 1, acquire("z", 5)), leasesOf(less, append(slices.Clone(less.Leases), held("z", 1, 15))...), api.Yes, "")
	does(t, less, ask(1, 1, put("z", "1")), less, api.Full, "")
}

func TestSignaturesAreNotLookedAt(t *testing.T) { // P9.3
	for _, sig := range [][]byte{nil, {0}, []byte("sig"), text(32), text(1000)} {
		r := api.Req{Client: 1, Stamp: 1, Op: spell(get("b")), Sig: sig}
		does(t, some(), r, some(), api.Yes, "1")
		r.Client, r.Stamp = 2, 5
		passes(t, some(), r, api.Differs, "two")
		r.Stamp = 4
		passes(t, some(), r, api.Old, "")
	}
}

// requests are of all sorts: some of them are done on a state, some aren't.
func requests() []api.Req {
	out := []api.Req{{}, {Client: 1}, {Stamp: 1}, {Client: 5, Stamp: 1}}
	for _, client := range []int{1, 2, 4} {
		for _, stamp := range []int{1, 5, 6, 300, 301, lastStamp} {
			for _, o := range append(allOps("b"), allOps("f")...) {
				out = append(out, ask(client, stamp, o))
			}
			out = append(out, api.Req{Client: client, Stamp: stamp}, api.Req{Client: client, Stamp: stamp, Op: []byte{99}})
		}
	}
	return out
}

func TestWrongStatesStay(t *testing.T) { // P9.3: leases that are over too, and one of several sessions of a client
	for _, a := range wrongStates() {
		for _, r := range requests() {
			stays(t, a, r)
		}
	}
}

func TestTheEnd(t *testing.T) { // P9.3
	for _, r := range requests() {
		stays(t, at(some(), lastSlot), r)
		stays(t, api.App{Slot: lastSlot}, r)
		before := at(some(), lastSlot-1)
		behind, _, _ := Apply(before, r)
		if behind.Slot != lastSlot || !Right(behind) {
			t.Errorf("Apply(%v, %v): %v", before, r, behind)
		}
		stays(t, behind, r)
	}
	a := at(some(), lastSlot-1)
	does(t, a, ask(1, 1, get("b")), a, api.Yes, "1")
	does(t, a, ask(1, 1, acquire("b", 1000)), leasesOf(a, held("b", 1, lastSlot+1000)), api.Yes, "")
	// A lease may last longer than the slots do.
	a.Leases = []api.Lease{held("b", 2, lastStamp)}
	does(t, a, ask(1, 1, holder("b")), a, api.Yes, value(2, lastStamp-lastSlot))
}

func TestFarSlots(t *testing.T) { // P1: no slot wraps round
	for _, slot := range []int{math.MinInt, math.MaxInt} {
		for _, r := range requests() {
			stays(t, api.App{Slot: slot}, r)
		}
	}
}
