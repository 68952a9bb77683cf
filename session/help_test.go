package session

import (
	"bytes"
	"encoding/binary"
	"math"
	"slices"
	"testing"

	"catenary/api"
)

// The limits, written out.
const (
	lastSlot  = 1000000
	lastStamp = 2147483647
)

// noClients are numbers of no client; some have a client's in their lowest bits.
var noClients = []int{math.MinInt, math.MinInt + 1, -1<<32 + 1, -255, -4, -1, 0, 5, 6, 100, 101, 257, math.MaxInt32, 1<<32 + 1, math.MaxInt}

// stamps are right ones.
var stamps = []int{1, 2, 127, 128, 256, 1000000, lastStamp - 1, lastStamp}

// noStamps are numbers that no request has; some have a stamp's in their lowest bits.
var noStamps = []int{math.MinInt, math.MinInt + 1, -1<<32 + 1, -lastStamp, -1, 0, lastStamp + 1, lastStamp + 2, 1 << 32, 1<<32 + 1, 1<<32 + 5, math.MaxInt}

// noSlots are numbers that no state's last slot has.
var noSlots = []int{math.MinInt, -1<<32 + 5, -lastSlot, -2, -1, lastSlot + 1, lastSlot + 2, lastStamp, 1 << 32, 1<<32 + 5, math.MaxInt - 1, math.MaxInt}

// noOps are bytes of no operation.
func noOps() [][]byte {
	long := text(17)
	return [][]byte{
		nil, {}, {0}, {1}, {99}, {1, 1, 'b'}, {1, 1, 'b', 0, 0}, {1, 1, 'b', 0, 0, 0, 0}, {129, 0, 1, 'b', 0, 0, 0}, []byte("put b 1"), bytes.Repeat([]byte{1}, 1000),
		spell(api.Op{Kind: 0, Name: []byte("b")}), spell(api.Op{Kind: 9, Name: []byte("b")}), spell(api.Op{Kind: 256 + 2, Name: []byte("b")}),
		spell(get("")), spell(put("", "1")), spell(get(string(long))), spell(put("b", string(text(65)))), spell(cas("b", "1", string(text(65)))),
		spell(acquire("b", 0)), spell(acquire("b", 1001)), spell(renew("b", 0)), spell(renew("b", 1001)), spell(acquire(string(long), 5)), spell(holder("")),
		spell(api.Op{Kind: api.OpGet, Name: []byte("b"), A: []byte("1")}), spell(api.Op{Kind: api.OpDelete, Name: []byte("b"), Num: 1}), spell(api.Op{Kind: api.OpHolder, Name: []byte("b"), Num: 1}), spell(api.Op{Kind: api.OpRelease, Name: []byte("b"), B: []byte("1")}),
	}
}

// text is a text of some size that isn't all one byte.
func text(size int) []byte {
	b := make([]byte, size)
	for i := range b {
		b[i] = byte(200 + 7*i)
	}
	return b
}

func get(name string) api.Op    { return api.Op{Kind: api.OpGet, Name: []byte(name)} }
func del(name string) api.Op    { return api.Op{Kind: api.OpDelete, Name: []byte(name)} }
func put(name, a string) api.Op { return api.Op{Kind: api.OpPut, Name: []byte(name), A: []byte(a)} }
func cas(name, a, b string) api.Op {
	return api.Op{Kind: api.OpCas, Name: []byte(name), A: []byte(a), B: []byte(b)}
}
func acquire(name string, num int) api.Op {
	return api.Op{Kind: api.OpAcquire, Name: []byte(name), Num: num}
}
func renew(name string, num int) api.Op {
	return api.Op{Kind: api.OpRenew, Name: []byte(name), Num: num}
}
func release(name string) api.Op { return api.Op{Kind: api.OpRelease, Name: []byte(name)} }
func holder(name string) api.Op  { return api.Op{Kind: api.OpHolder, Name: []byte(name)} }

// allOps are operations of all kinds on a name.
func allOps(name string) []api.Op {
	return []api.Op{get(name), put(name, "new"), cas(name, "1", "new"), cas(name, "other", "new"), del(name), acquire(name, 7), renew(name, 7), release(name), holder(name)}
}

// spell spells an operation's bytes without the layers below, also of what can't be written.
func spell(o api.Op) []byte {
	out := binary.AppendUvarint(nil, uint64(o.Kind))
	for _, part := range [][]byte{o.Name, o.A, o.B} {
		out = append(binary.AppendUvarint(out, uint64(len(part))), part...)
	}
	return binary.AppendUvarint(out, uint64(o.Num))
}

// value is an Owner and how long it still holds, as bytes that are made without the layers below.
func value(owner, left int) string {
	return string(binary.AppendUvarint(binary.AppendUvarint(nil, uint64(owner)), uint64(left)))
}

// ask is a client's request for an operation.
func ask(client, stamp int, o api.Op) api.Req {
	return api.Req{Client: client, Stamp: stamp, Op: spell(o), Sig: []byte("sig")}
}

func entry(name, value string) api.Entry { return api.Entry{Name: []byte(name), Value: []byte(value)} }

func held(name string, owner, until int) api.Lease {
	return api.Lease{Name: []byte(name), Owner: owner, Until: until}
}

func seen(client, stamp, code int, value string) api.Session {
	return api.Session{Client: client, Stamp: stamp, Result: api.Result{Code: code, Value: []byte(value)}}
}

// some is a state in the midst of things: its next slot is 10, at which the lease of f is over.
func some() api.App {
	return api.App{
		Slot:     9,
		Entries:  []api.Entry{entry("b", "1"), entry("d", ""), entry("f", "3")},
		Leases:   []api.Lease{held("b", 2, 50), held("d", 4, 11), held("f", 1, 10)},
		Sessions: []api.Session{seen(2, 5, api.Differs, "two"), seen(4, 300, api.Full, "")},
	}
}

// clients are sessions of some clients, all else of them right.
func clients(numbers ...int) []api.Session {
	var out []api.Session
	for i, number := range numbers {
		// Stamps and Codes don't rise.
		out = append(out, seen(number, 100-i%7, 6-i%7, "v"))
	}
	return out
}

// at is a state with another Slot.
func at(a api.App, slot int) api.App {
	a.Slot = slot
	return a
}

// entriesOf is a state with other Entries.
func entriesOf(a api.App, entries ...api.Entry) api.App {
	a.Entries = entries
	return a
}

// leasesOf is a state with other Leases.
func leasesOf(a api.App, leases ...api.Lease) api.App {
	a.Leases = leases
	return a
}

// sessionsOf is a state with other Sessions.
func sessionsOf(a api.App, sessions ...api.Session) api.App {
	a.Sessions = sessions
	return a
}

// saw is a state in which a session is put among the others, in the order of their Clients, instead of that Client's if it had one.
func saw(a api.App, session api.Session) api.App {
	others := slices.DeleteFunc(slices.Clone(a.Sessions), func(s api.Session) bool { return s.Client == session.Client })
	a.Sessions = append(others, session)
	slices.SortFunc(a.Sessions, func(a, b api.Session) int { return a.Client - b.Client })
	return a
}

// wrongStates aren't Right, each for another reason.
func wrongStates() []api.App {
	var out []api.App
	for _, slot := range noSlots {
		out = append(out, at(some(), slot), api.App{Slot: slot})
	}
	for _, entries := range wrongEntries() {
		out = append(out, entriesOf(some(), entries...), api.App{Entries: entries})
	}
	for _, leases := range wrongLeases() {
		out = append(out, leasesOf(some(), leases...), api.App{Leases: leases})
	}
	for _, sessions := range wrongSessions() {
		out = append(out, sessionsOf(some(), sessions...), api.App{Sessions: sessions})
	}
	return out
}

func wrongEntries() [][]api.Entry {
	var many []api.Entry
	for i := range 65 {
		many = append(many, entry("n"+string([]byte{byte(i)}), ""))
	}
	return [][]api.Entry{
		{entry("b", ""), entry("a", "")}, {entry("b", "1"), entry("b", "1")}, {entry("", "")}, {{}},
		{entry(string(text(17)), "")}, {entry("b", string(text(65)))}, {entry("b", "1"), entry("d", string(text(65)))}, many,
	}
}

func wrongLeases() [][]api.Lease {
	var many []api.Lease
	for i := range 17 {
		many = append(many, held("n"+string([]byte{byte(i)}), 1, 50))
	}
	return [][]api.Lease{
		{held("b", 1, 50), held("a", 1, 50)}, {held("b", 1, 50), held("b", 1, 50)}, {held("", 1, 50)}, {{}},
		{held(string(text(17)), 1, 50)}, {held("b", 0, 50)}, {held("b", 5, 50)}, {held("b", 1, 0)}, {held("b", 1, lastStamp+1)}, {held("b", 1, 50), held("d", 1, -1)}, many,
	}
}

func wrongSessions() [][]api.Session {
	out := [][]api.Session{
		clients(2, 1), clients(1, 1), clients(1, 1, 2), clients(1, 3, 2), clients(4, 3, 2, 1), clients(1, 2, 3, 4, 4), clients(0), clients(5), clients(0, 1), clients(1, 2, 3, 4, 5), clients(1, 2, 0), {{}},
		{seen(2, 5, 0, ""), seen(2, 6, 0, "")}, {seen(2, 5, 0, ""), seen(2, 5, 0, "")}, slices.Repeat(clients(3), 1000),
		{seen(2, 5, api.Old+1, "")}, {seen(2, 5, -1, "")}, {seen(2, 5, 0, string(text(65)))}, {seen(1, 1, 0, ""), seen(2, 5, 0, string(text(1000)))},
	}
	for _, stamp := range noStamps {
		out = append(out, []api.Session{seen(2, stamp, 0, "")}, []api.Session{seen(1, 5, 0, ""), seen(2, stamp, 0, "")})
	}
	return out
}

func sameResult(a, b api.Result) bool { return a.Code == b.Code && bytes.Equal(a.Value, b.Value) }

func sameState(a, b api.App) bool {
	return a.Slot == b.Slot && slices.EqualFunc(a.Entries, b.Entries, func(a, b api.Entry) bool {
		return bytes.Equal(a.Name, b.Name) && bytes.Equal(a.Value, b.Value)
	}) && slices.EqualFunc(a.Leases, b.Leases, func(a, b api.Lease) bool {
		return bytes.Equal(a.Name, b.Name) && a.Owner == b.Owner && a.Until == b.Until
	}) && slices.EqualFunc(a.Sessions, b.Sessions, func(a, b api.Session) bool {
		return a.Client == b.Client && a.Stamp == b.Stamp && sameResult(a.Result, b.Result)
	})
}

// gives asks what a request gives: which state, with what coming of it, and whether it was done now. Run has to give the same state.
func gives(t *testing.T, a api.App, r api.Req, want api.App, code int, value string, done bool) {
	t.Helper()
	got, result, now := Apply(a, r)
	if result.Code != code || string(result.Value) != value || now != done {
		t.Errorf("Apply(%v, %v): code %d with %q, %v; want %d with %q, %v", a, r, result.Code, result.Value, now, code, value, done)
	}
	if !sameState(got, want) {
		t.Errorf("Apply(%v, %v): %v; want %v", a, r, got, want)
	}
	if ran := Run(a, r); !sameState(ran, want) {
		t.Errorf("Run(%v, %v): %v; want %v", a, r, ran, want)
	}
}

// passes asks that nothing but the slot goes on.
func passes(t *testing.T, a api.App, r api.Req, code int, value string) {
	t.Helper()
	gives(t, a, r, at(a, a.Slot+1), code, value, false)
}

// does asks that a request is done now; want is the state behind it but for its slot and the client's session.
func does(t *testing.T, a api.App, r api.Req, want api.App, code int, value string) {
	t.Helper()
	gives(t, a, r, saw(at(want, a.Slot+1), seen(r.Client, r.Stamp, code, value)), code, value, true)
}

// stays asks that a state stays as it is, its slot too.
func stays(t *testing.T, a api.App, r api.Req) {
	t.Helper()
	gives(t, a, r, a, api.Bad, "", false)
}

// lastIs asks for a client's last request, and what came of it.
func lastIs(t *testing.T, a api.App, client, stamp, code int, value string) {
	t.Helper()
	got, result := Last(a, client)
	if got != stamp || result.Code != code || string(result.Value) != value {
		t.Errorf("Last(%v, %d) = %d, %v; want %d, code %d with %q", a, client, got, result, stamp, code, value)
	}
}
