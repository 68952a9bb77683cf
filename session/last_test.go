package session

import (
	"testing"

	"catenary/api"
)

func TestLast(t *testing.T) { // P9.2
	a := some()
	lastIs(t, a, 1, 0, 0, "")
	lastIs(t, a, 2, 5, api.Differs, "two")
	lastIs(t, a, 3, 0, 0, "")
	lastIs(t, a, 4, 300, api.Full, "")
	for client := range 6 {
		lastIs(t, api.App{}, client, 0, 0, "")
		lastIs(t, sessionsOf(a, []api.Session{}...), client, 0, 0, "")
	}
	for _, client := range noClients {
		lastIs(t, a, client, 0, 0, "")
		lastIs(t, sessionsOf(a, clients(1, 2, 3, 4)...), client, 0, 0, "")
	}
	a.Sessions = []api.Session{seen(1, 1, api.Yes, ""), seen(2, lastStamp, api.Old, string(text(64))), seen(3, 7, api.Held, "\x01\x02"), seen(4, 8, api.Bad, "\x00")}
	lastIs(t, a, 1, 1, api.Yes, "")
	lastIs(t, a, 2, lastStamp, api.Old, string(text(64)))
	lastIs(t, a, 3, 7, api.Held, "\x01\x02")
	lastIs(t, a, 4, 8, api.Bad, "\x00")
}

func TestLastOfSeveral(t *testing.T) { // P9.2: the first one counts, wherever it is and whatever it tells
	for _, sessions := range [][]api.Session{
		{seen(2, 5, 1, "five"), seen(2, 6, 2, "six")},
		{seen(2, 5, 1, "five"), seen(2, 4, 2, "four")},
		{seen(2, 5, 1, "five"), seen(2, 5, 2, "other")},
		{seen(1, 9, 0, "one"), seen(2, 5, 1, "five"), seen(1, 9, 0, "one"), seen(2, 6, 2, "six"), seen(2, 7, 2, "seven")},
		{seen(4, 9, 0, "four"), seen(3, 9, 0, "three"), seen(2, 5, 1, "five"), seen(1, 9, 0, "one"), seen(2, 9, 9, "nine")},
	} {
		lastIs(t, api.App{Sessions: sessions}, 2, 5, 1, "five")
		lastIs(t, sessionsOf(some(), sessions...), 2, 5, 1, "five")
	}
	lastIs(t, api.App{Sessions: []api.Session{seen(2, 0, 0, ""), seen(2, 6, 2, "six")}}, 2, 0, 0, "")
}

func TestLastOfWhatIsNotRight(t *testing.T) { // P9.2: it is told as it is there
	for _, client := range noClients {
		lastIs(t, api.App{Sessions: []api.Session{seen(client, 5, 1, "five")}}, client, 5, 1, "five")
		lastIs(t, api.App{Sessions: []api.Session{seen(client, 5, 1, "five")}}, client+1, 0, 0, "")
	}
	for _, stamp := range noStamps {
		lastIs(t, api.App{Sessions: []api.Session{seen(1, stamp, -3, "v")}}, 1, stamp, -3, "v")
	}
	a := sessionsOf(some(), seen(4, 9, 70, string(text(65))), seen(1, 8, 0, "one"))
	lastIs(t, a, 1, 8, 0, "one")
	lastIs(t, a, 4, 9, 70, string(text(65)))
	lastIs(t, at(entriesOf(a, wrongEntries()[0]...), -1), 1, 8, 0, "one")
}
