package session

import (
	"math"
	"testing"

	"catenary/api"
)

func isRight(t *testing.T, what string, a api.App, want bool) {
	t.Helper()
	if Right(a) != want {
		t.Errorf("Right of %s is %v: %v", what, !want, a)
	}
}

func TestRight(t *testing.T) { // P9.1
	isRight(t, "the beginning", api.App{}, true)
	isRight(t, "the beginning", api.App{Entries: []api.Entry{}, Leases: []api.Lease{}, Sessions: []api.Session{}}, true)
	isRight(t, "a state", some(), true)
	for _, a := range wrongStates() {
		isRight(t, "a wrong state", a, false)
	}
}

func TestRightSlot(t *testing.T) { // P9.1
	for _, slot := range []int{0, 1, 2, 127, 128, 65536, lastSlot - 1, lastSlot} {
		isRight(t, "a Slot", at(some(), slot), true)
		isRight(t, "a Slot of nothing", api.App{Slot: slot}, true)
	}
	for _, slot := range noSlots {
		isRight(t, "a Slot that is none", at(some(), slot), false)
		isRight(t, "a Slot that is none, of nothing", api.App{Slot: slot}, false)
	}
}

func TestRightParts(t *testing.T) { // P9.1: one part that isn't right is enough
	for _, entries := range wrongEntries() {
		isRight(t, "wrong Entries", entriesOf(some(), entries...), false)
		isRight(t, "wrong Entries alone", api.App{Entries: entries}, false)
	}
	for _, leases := range wrongLeases() {
		isRight(t, "wrong Leases", leasesOf(some(), leases...), false)
		isRight(t, "wrong Leases alone", api.App{Leases: leases}, false)
	}
	isRight(t, "no Entries", entriesOf(some()), true)
	isRight(t, "no Leases", leasesOf(some()), true)
	isRight(t, "no Sessions", sessionsOf(some()), true)
	// A lease that is over may still be there, and a name may be an entry's and a lease's.
	isRight(t, "a lease that is over", leasesOf(some(), held("b", 1, 1)), true)
	isRight(t, "the longest", entriesOf(leasesOf(some(), held(string(text(16)), 4, lastStamp)), entry(string(text(16)), string(text(64)))), true)
}

func TestRightClients(t *testing.T) { // P9.1: all lists of up to five clients
	var try func(l []int, rising bool)
	try = func(l []int, rising bool) {
		isRight(t, "some clients", sessionsOf(some(), clients(l...)...), rising)
		if len(l) == 5 {
			return
		}
		last := 0
		if len(l) > 0 {
			last = l[len(l)-1]
		}
		for client := range 7 {
			try(append(l[:len(l):len(l)], client), rising && client > last && client <= 4)
		}
	}
	try(nil, true)
	for _, client := range noClients {
		isRight(t, "no client", sessionsOf(some(), clients(client)...), false)
		isRight(t, "no client behind one", sessionsOf(some(), clients(1, client)...), false)
		isRight(t, "no client ahead of one", sessionsOf(some(), clients(client, 4)...), false)
	}
	// Spare room isn't counted.
	isRight(t, "clients with more behind", sessionsOf(some(), clients(1, 2, 1)[:2]...), true)
}

func TestRightSessions(t *testing.T) { // P9.1: at each place
	for place := range 4 {
		with := func(change func(s *api.Session)) api.App {
			a := sessionsOf(some(), clients(1, 2, 3, 4)...)
			change(&a.Sessions[place])
			return a
		}
		for _, stamp := range stamps {
			isRight(t, "a Stamp", with(func(s *api.Session) { s.Stamp = stamp }), true)
		}
		for _, stamp := range noStamps {
			isRight(t, "a Stamp that is none", with(func(s *api.Session) { s.Stamp = stamp }), false)
		}
		for code := range 7 {
			isRight(t, "a Code", with(func(s *api.Session) { s.Result.Code = code }), true)
		}
		for _, code := range []int{math.MinInt, -1<<32 + 1, -250, -2, -1, 7, 8, 256, 261, 1 << 32, 1<<32 + 1, math.MaxInt} {
			isRight(t, "a Code that is none", with(func(s *api.Session) { s.Result.Code = code }), false)
		}
		for _, size := range []int{0, 1, 2, 63, 64, 65, 66, 127, 128, 256, 320, 1000} {
			isRight(t, "a Value of some size", with(func(s *api.Session) { s.Result.Value = text(size) }), size <= 64)
		}
		// Spare room isn't counted.
		isRight(t, "a Value with more behind", with(func(s *api.Session) { s.Result.Value = text(100)[:64] }), true)
	}
}
