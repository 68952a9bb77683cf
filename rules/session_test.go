package rules

import (
	"reflect"
	"strconv"
	"testing"

	"catenary/api"
	"catenary/kv"
	"catenary/session"
)

func someSessions() []api.Session {
	return []api.Session{
		{Client: 1, Stamp: 5, Result: api.Result{Code: api.Differs, Value: []byte("one")}},
		{Client: 3, Stamp: 7},
		{Client: 4, Stamp: 9, Result: api.Result{Code: api.Yes, Value: []byte("four")}},
	}
}

func someState() api.App {
	return api.App{Slot: 4, Entries: someEntries(), Leases: someLeases(), Sessions: someSessions()}
}

// states are right and not, at the beginning, in the midst and at the end.
func states() []api.App {
	full, end, falling, twice, past := someState(), someState(), someState(), someState(), someState()
	full.Entries, full.Leases = manyEntries(64), manyLeases(16)
	end.Slot = api.MaxSlot
	falling.Sessions[0].Client = 4
	twice.Entries = append(twice.Entries, twice.Entries...)
	past.Slot = api.MaxSlot + 1
	return []api.App{{}, someState(), full, end, falling, twice, past, {Sessions: someSessions()[:1]}}
}

// asks are requests of clients that have a session and that have none, with Stamps that are past, last, next, and none.
func asks() []api.Req {
	out := []api.Req{{}, {Op: []byte{}, Sig: []byte{}}, {Client: 1, Stamp: 6, Op: []byte("none"), Sig: []byte("sig")}, {Client: 9, Stamp: 6, Op: []byte("none"), Sig: []byte("sig")}}
	for _, o := range ops() {
		b, e := kv.Write(o)
		if e != api.OK {
			continue
		}
		for _, client := range []int{0, 1, 2} {
			for _, stamp := range []int{4, 5, 6} {
				out = append(out, api.Req{Client: client, Stamp: stamp, Op: b, Sig: []byte("sig")})
			}
		}
	}
	return out
}

func TestSessions(t *testing.T) {
	for i, a := range states() {
		state := " of state " + strconv.Itoa(i)
		keepsRules(t, call{"Right" + state, session.Right, []any{a}})
		for client := range 6 {
			keepsRules(t, call{"Last" + state, session.Last, []any{a, client}})
		}
		keepsRules(t, call{"Run of none" + state, session.Run, []any{a, []api.Req{}}})
		var last api.Req
		for _, r := range asks() {
			keepsRules(t, call{"Apply" + state, session.Apply, []any{a, r}})
			keepsRules(t, call{"Run" + state, session.Run, []any{a, []api.Req{r, last, r}}})
			last = r
		}
		keepsRules(t, call{"Run of many" + state, session.Run, []any{a, asks()}})
	}
}

func TestSessionsHangOnArguments(t *testing.T) { // P2: whatever was done ahead, or refused; a slot may come again, too
	b, _ := kv.Write(api.Op{Kind: api.OpGet, Name: []byte("b")})
	r := api.Req{Client: 3, Stamp: 8, Op: b}
	want := someState()
	want.Slot++
	want.Sessions[1] = api.Session{Client: 3, Stamp: 8, Result: api.Result{Code: api.Yes, Value: []byte("one")}}
	for _, a := range states() {
		for _, other := range asks() {
			session.Apply(a, other)
			session.Run(a, other, other)
			session.Last(a, other.Client)
			got, result, done := session.Apply(someState(), r)
			if !same(reflect.ValueOf(got), reflect.ValueOf(want)) || result.Code != api.Yes || string(result.Value) != "one" || !done {
				t.Fatalf("a get behind %v on %v: %v, %v, %v", other, a, got, result, done)
			}
		}
	}
}
