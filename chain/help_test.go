package chain

import (
	"crypto/sha256"
	"encoding/binary"
	"fmt"
	"math"
	"reflect"
	"slices"
	"strconv"
	"testing"

	"catenary/api"
)

// The kinds, limits, codes and the error, as the document has them.
const (
	chainKind   = 2
	ackKind     = 3
	commitKind  = 4
	replyKind   = 5
	checkKind   = 10
	promiseKind = 20
	enterKind   = 21
	voteKind    = 22
	prepKind    = 23
	doneKind    = 24
	saveKind    = 25
	open        = 16
	period      = 4
	mostSlot    = 1000000
	mostView    = 1000000
	greatest    = 2147483647
	refused     = 211
	yes         = 0
	missing     = 1
	bad         = 5
	old         = 6
	// clientKey is which key client 0 would have, and whom an act for it would be for.
	clientKey = 100
)

// rightNs are all that are right.
var rightNs = []int{4, 7, 10, 13, 16}

// quorum is how many are one of a right n.
func quorum(n int) int { return map[int]int{4: 3, 7: 5, 10: 7, 13: 9, 16: 11}[n] }

// wrongNs are all others of which one might slip through.
func wrongNs() []int {
	out := []int{math.MinInt, math.MinInt + 4, math.MinInt32, -1 << 32, 1 << 16, 1<<32 + 4, 1<<32 + 16, 3*greatest + 1, math.MaxInt32, math.MaxInt - 3, math.MaxInt}
	for n := -20; n < 60; n++ {
		if !slices.Contains(rightNs, n) {
			out = append(out, n)
		}
	}
	return out
}

// odd are numbers of all sizes.
func odd() []int {
	return []int{math.MinInt, math.MinInt + 1, -1 << 32, math.MinInt32, -101, -2, -1, 0, 1, 2, 3, 4, 5, 8, 15, 16, 17, 20, 25, 26, 101, mostSlot, mostSlot + 1, greatest, greatest + 1, 1 << 32, 1<<32 + 1, 1<<32 + 5, math.MaxInt - 1, math.MaxInt}
}

// from are so many numbers, from first on.
func from(first, many int) []int {
	var out []int
	for i := range many {
		out = append(out, first+i)
	}
	return out
}

// around is the order in which a chain starts whose head this is.
func around(head, n int) []int { return append(from(head, n-head), from(0, head)...) }

// numbers are the 8 bytes of each number.
func numbers(all ...int) []byte {
	var out []byte
	for _, n := range all {
		out = binary.LittleEndian.AppendUint64(out, uint64(n))
	}
	return out
}

// ints are each number's Int, if it has one.
func ints(all ...int) []byte {
	var out []byte
	for _, n := range all {
		out = binary.AppendUvarint(out, uint64(n))
	}
	return out
}

// pack is each text's length and bytes, one text behind the other.
func pack(all ...[]byte) []byte {
	var out []byte
	for _, p := range all {
		out = append(append(out, ints(len(p))...), p...)
	}
	return out
}

// sign is a key's signature, made without the layers below; of what is no key it is what it would be if it were one.
func sign(key int, domain string, parts ...[]byte) []byte {
	sig := sha256.Sum256(pack(append([][]byte{[]byte("sign"), ints(key), []byte(domain)}, parts...)...))
	return sig[:]
}

// digest is that of a state's bytes.
func digest(state []byte) []byte {
	sum := sha256.Sum256(pack([]byte("digest"), []byte("state"), state))
	return sum[:]
}

// body is a request's Body.
func body(r api.Req) []byte { return append(numbers(r.Client, r.Stamp), pack(r.Op, r.Sig)...) }

// asked is the request with its client's signature.
func asked(client, stamp int, op []byte) api.Req {
	sig := sign(clientKey+client, "request", numbers(client, stamp), op)
	return api.Req{Client: client, Stamp: stamp, Op: op, Sig: sig}
}

// put is a request that gives a the value of its client and stamp, get one that tells it.
func put(client, stamp int) api.Req {
	value := fmt.Appendf(nil, "%d.%d", client, stamp)
	return asked(client, stamp, append(append([]byte{2, 1, 'a', byte(len(value))}, value...), 0, 0))
}

func get(client, stamp int) api.Req { return asked(client, stamp, []byte{1, 1, 'a', 0, 0, 0}) }

// votes are those of some signers, in their order.
func votes(kind int, b api.Ballot, slot int, body []byte, signers ...int) []api.Vote {
	var out []api.Vote
	for _, s := range signers {
		out = append(out, api.Vote{Signer: s, Sig: sign(s, "vote", numbers(kind, b.View, b.Turn, slot), body)})
	}
	return out
}

// rising are the votes of some signers by their numbers.
func rising(kind int, b api.Ballot, slot int, body []byte, signers ...int) []api.Vote {
	return votes(kind, b, slot, body, slices.Sorted(slices.Values(signers))...)
}

// cert is of the last quorum of n.
func cert(n, kind int, b api.Ballot, slot int, r api.Req) []api.Vote {
	return votes(kind, b, slot, body(r), from(n-quorum(n), quorum(n))...)
}

// A record of each kind.
func promise(b api.Ballot) api.Msg { return api.Msg{Kind: promiseKind, Ballot: b} }

func enter(b api.Ballot, base int, order []int, picks ...api.Req) api.Msg {
	return api.Msg{Kind: enterKind, Ballot: b, Slot: base, Order: order, Picks: picks}
}

func voted(b api.Ballot, slot int, r api.Req) api.Msg {
	return api.Msg{Kind: voteKind, Ballot: b, Slot: slot, Req: r}
}

func prepared(b api.Ballot, slot int, r api.Req, cert []api.Vote) api.Msg {
	return api.Msg{Kind: prepKind, Ballot: b, Slot: slot, Req: r, Cert: cert}
}

func done(b api.Ballot, slot int, r api.Req, votes []api.Vote) api.Msg {
	return api.Msg{Kind: doneKind, Ballot: b, Slot: slot, Req: r, Votes: votes}
}

// save is of a state that the last quorum of n votes for.
func save(n int, a api.App) api.Msg {
	data := spell(a)
	return api.Msg{Kind: saveKind, Slot: a.Slot, Data: data, Cert: votes(checkKind, api.Ballot{}, a.Slot, digest(data), from(n-quorum(n), quorum(n))...)}
}

// dones are records of requests that are committed at slots from first on.
func dones(first int, requests ...api.Req) []api.Msg {
	var out []api.Msg
	for i, r := range requests {
		out = append(out, done(api.Ballot{}, first+i, r, nil))
	}
	return out
}

// A message of each kind, with the votes of some signers in their order.
func down(b api.Ballot, slot int, r api.Req, signers ...int) api.Msg {
	return api.Msg{Kind: chainKind, Ballot: b, Slot: slot, Req: r, Votes: votes(chainKind, b, slot, body(r), signers...)}
}

func up(b api.Ballot, slot int, r api.Req, cert []api.Vote, signers ...int) api.Msg {
	return api.Msg{Kind: ackKind, Ballot: b, Slot: slot, Req: r, Cert: cert, Votes: votes(ackKind, b, slot, body(r), signers...)}
}

func commits(b api.Ballot, slot int, r api.Req, signers ...int) api.Msg {
	return api.Msg{Kind: commitKind, Ballot: b, Slot: slot, Req: r, Votes: votes(ackKind, b, slot, body(r), signers...)}
}

// kept is a record's act, sent a message's.
func kept(m api.Msg) api.Act { return api.Act{To: -1, Msg: m} }

func sent(to int, m api.Msg) api.Act { return api.Act{To: to, Msg: m} }

// others is a message for all of n but me.
func others(n, me int, m api.Msg) []api.Act {
	var out []api.Act
	for to := range n {
		if to != me {
			out = append(out, sent(to, m))
		}
	}
	return out
}

// reply is what me tells the client of a request.
func reply(me int, r api.Req, code int, value string) api.Act {
	data := append([]byte{byte(code), byte(len(value))}, value...)
	m := api.Msg{Kind: replyKind, From: me, To: r.Client, Index: r.Stamp, Data: data}
	if r.Stamp >= 0 && r.Stamp <= greatest {
		m.Sig = sign(me, "message", append(append(ints(replyKind, me, r.Client, r.Stamp, len(data)), data...), 0))
	}
	return sent(100+r.Client, m)
}

// checks are what me tells all of n behind a state.
func checks(n, me int, a api.App) []api.Act {
	sum := digest(spell(a))
	var out []api.Act
	for to := range n {
		out = append(out, sent(to, api.Msg{Kind: checkKind, Slot: a.Slot, Data: sum, Votes: votes(checkKind, api.Ballot{}, a.Slot, sum, me)}))
	}
	return out
}

// after is the state behind requests that follow on a state, worked out without the layers below: they put or get a, or do nothing that counts.
func after(a api.App, requests ...api.Req) api.App {
	sessions := map[int]api.Session{}
	for _, s := range a.Sessions {
		sessions[s.Client] = s
	}
	a.Entries = slices.Clone(a.Entries)
	for _, r := range requests {
		a.Slot++
		if r.Client < 1 || r.Client > 4 || r.Stamp <= sessions[r.Client].Stamp || r.Stamp > greatest {
			continue
		}
		result := api.Result{Code: bad}
		switch isGet := string(r.Op) == string(get(1, 1).Op); {
		case len(r.Op) > 1 && r.Op[0] == 2:
			result = api.Result{}
			a.Entries = []api.Entry{{Name: []byte("a"), Value: r.Op[4 : len(r.Op)-2]}}
		case isGet && len(a.Entries) == 0:
			result = api.Result{Code: missing}
		case isGet:
			result = api.Result{Value: a.Entries[0].Value}
		}
		sessions[r.Client] = api.Session{Client: r.Client, Stamp: r.Stamp, Result: result}
	}
	a.Sessions = nil
	for client := range 5 {
		if s, has := sessions[client]; has {
			a.Sessions = append(a.Sessions, s)
		}
	}
	return a
}

// stateAt is one at some slot, with sessions of clients 1 and 3.
func stateAt(slot int) api.App {
	return api.App{
		Slot: slot, Entries: []api.Entry{{Name: []byte("a"), Value: []byte("old")}}, Leases: []api.Lease{{Name: []byte("l"), Owner: 2, Until: greatest}},
		Sessions: []api.Session{{Client: 1, Stamp: 5, Result: api.Result{Value: []byte("one")}}, {Client: 3, Stamp: 7, Result: api.Result{Code: missing}}},
	}
}

// spell writes a state's bytes.
func spell(a api.App) []byte {
	out := ints(a.Slot, len(a.Entries))
	for _, e := range a.Entries {
		out = append(out, pack(e.Name, e.Value)...)
	}
	out = append(out, ints(len(a.Leases))...)
	for _, l := range a.Leases {
		out = append(append(out, pack(l.Name)...), ints(l.Owner, l.Until)...)
	}
	out = append(out, ints(len(a.Sessions))...)
	for _, s := range a.Sessions {
		out = append(append(out, ints(s.Client, s.Stamp, s.Result.Code)...), pack(s.Result.Value)...)
	}
	return out
}

// core is a replica that redid some records.
func core(t *testing.T, n, me int, records ...api.Msg) *Core {
	t.Helper()
	c, e := New(n, me)
	if e != 0 || c == nil {
		t.Fatalf("New(%d, %d): error %d", n, me, int(e))
	}
	c.Redo(records...)
	return c
}

// beginning is the state of a new replica of n.
func beginning(n int) api.Core { return api.Core{Active: true, Order: from(0, n)} }

// equal holds two values against each other; lists that are nil and empty are one.
func equal(a, b any) bool { return differs("", reflect.ValueOf(a), reflect.ValueOf(b)) == "" }

// differs tells where two values aren't the same first.
func differs(where string, a, b reflect.Value) string {
	switch a.Kind() {
	case reflect.Slice:
		if a.Len() != b.Len() {
			return fmt.Sprintf("%s has %d items, not %d: %v, not %v", where, a.Len(), b.Len(), a, b)
		}
		for i := range a.Len() {
			if at := differs(where+"["+strconv.Itoa(i)+"]", a.Index(i), b.Index(i)); at != "" {
				return at
			}
		}
		return ""
	case reflect.Struct:
		for i := range a.NumField() {
			if at := differs(where+"."+a.Type().Field(i).Name, a.Field(i), b.Field(i)); at != "" {
				return at
			}
		}
		return ""
	}
	if !a.Equal(b) {
		return fmt.Sprintf("%s is %v, not %v", where, a, b)
	}
	return ""
}

// tells asks for acts in their order, with every field.
func tells(t *testing.T, what string, got []api.Act, want ...api.Act) {
	t.Helper()
	if !equal(got, want) {
		t.Fatalf("%s: told\n%swant\n%s", what, lines(got), lines(want))
	}
}

// lines writes acts out.
func lines(acts []api.Act) string {
	out := ""
	for _, a := range acts {
		out += fmt.Sprintf("to %d: %+v\n", a.To, a.Msg)
	}
	return out
}

// is asks for the whole state, twice: asking changes nothing.
func is(t *testing.T, what string, c *Core, want api.Core) {
	t.Helper()
	for range 2 {
		if at := differs("State", reflect.ValueOf(c.State()), reflect.ValueOf(want)); at != "" {
			t.Fatalf("%s: %s", what, at)
		}
	}
}

// whole is all that a replica tells when it is asked.
type whole struct {
	State   api.Core
	States  []point
	Records []api.Msg
}

type point struct {
	Slot  int
	Bytes []byte
}

func all(c *Core) whole {
	w := whole{State: c.State(), Records: c.Records()}
	for _, slot := range append(odd(), from(w.State.Low-20, 60)...) {
		if state, has := c.StateAt(slot); has {
			w.States = append(w.States, point{slot, state})
		}
	}
	return w
}

// nothing asks that a call tells nothing and changes nothing.
func nothing(t *testing.T, what string, c *Core, call func() []api.Act) {
	t.Helper()
	before := all(c)
	tells(t, what, call())
	if at := differs("", reflect.ValueOf(all(c)), reflect.ValueOf(before)); at != "" {
		t.Fatalf("%s: %s, as it was", what, at)
	}
}

// ignores asks that a record changes nothing.
func ignores(t *testing.T, what string, c *Core, m api.Msg) {
	t.Helper()
	nothing(t, what, c, func() []api.Act { c.Redo(m); return nil })
}

// refuses asks that a message does nothing.
func refuses(t *testing.T, what string, c *Core, m api.Msg) {
	t.Helper()
	nothing(t, what, c, func() []api.Act { return c.Take(m) })
}

// does asks what a call tells, and that it changes the state in just one way.
func does(t *testing.T, what string, c *Core, call func() []api.Act, change func(s *api.Core), want ...api.Act) {
	t.Helper()
	state := c.State()
	change(&state)
	tells(t, what, call(), want...)
	is(t, what, c, state)
}

// redoes asks that a record changes the state in just one way.
func redoes(t *testing.T, what string, c *Core, m api.Msg, change func(s *api.Core)) {
	t.Helper()
	does(t, what, c, func() []api.Act { c.Redo(m); return nil }, change)
}

// takes asks what a message tells, and that it changes the state in just one way.
func takes(t *testing.T, what string, c *Core, m api.Msg, change func(s *api.Core), want ...api.Act) {
	t.Helper()
	does(t, what, c, func() []api.Act { return c.Take(m) }, change, want...)
}

// asks asks what a request tells, and that it changes the state in just one way.
func asks(t *testing.T, what string, c *Core, r api.Req, change func(s *api.Core), want ...api.Act) {
	t.Helper()
	does(t, what, c, func() []api.Act { return c.Ask(r) }, change, want...)
}

// unchanged is for calls that tell something and change nothing.
func unchanged(*api.Core) {}

// at puts what is known of a slot into a state, among the others.
func at(s *api.Core, slot int, change func(s *api.Slot)) {
	i, found := slices.BinarySearch(s.Numbers, slot)
	if !found {
		s.Numbers = slices.Insert(slices.Clone(s.Numbers), i, slot)
		s.Slots = slices.Insert(slices.Clone(s.Slots), i, api.Slot{})
	}
	change(&s.Slots[i])
}

func atVote(s *api.Core, slot int, b api.Ballot, r api.Req) {
	at(s, slot, func(s *api.Slot) { s.HasVote, s.Voted, s.Vote = true, b, r })
}

func atPrep(s *api.Core, slot int, b api.Ballot, r api.Req, cert []api.Vote) {
	at(s, slot, func(s *api.Slot) { s.HasPrep, s.Prepared, s.Prep, s.Cert = true, b, r, cert })
}

func atDone(s *api.Core, slot int, b api.Ballot, r api.Req, votes []api.Vote) {
	at(s, slot, func(s *api.Slot) { s.HasDone, s.Done, s.Ballot, s.Votes = true, r, b, votes })
}

// wait puts a request among those that are Pending.
func wait(s *api.Core, r api.Req) {
	others := slices.DeleteFunc(slices.Clone(s.Pending), func(p api.Req) bool { return p.Client == r.Client })
	s.Pending = append(others, r)
	slices.SortFunc(s.Pending, func(a, b api.Req) int { return a.Client - b.Client })
}

// wrongVotes are no certificate of n for a body, each by what is wrong with it.
func wrongVotes(n, kind int, b api.Ballot, slot int, body []byte) map[string][]api.Vote {
	q := quorum(n)
	of := func(signers ...int) []api.Vote { return votes(kind, b, slot, body, signers...) }
	right := func() []api.Vote { return of(from(n-q, q)...) }
	falling := right()
	slices.Reverse(falling)
	out := map[string][]api.Vote{
		"no votes":               nil,
		"one vote short":         right()[1:],
		"the last vote short":    right()[:q-1],
		"one vote more":          of(from(n-q-1, q+1)...),
		"all votes":              of(from(0, n)...),
		"a signer that is n":     of(from(n-q+1, q)...),
		"a signer below 0":       of(append([]int{-1}, from(0, q-1)...)...),
		"one signer twice":       of(append([]int{n - q}, from(n-q, q-1)...)...),
		"votes that fall":        falling,
		"the first two swapped":  of(append([]int{n - q + 1, n - q}, from(n-q+2, q-2)...)...),
		"another body":           votes(kind, b, slot, append(slices.Clone(body), 0), from(0, q)...),
		"no body":                votes(kind, b, slot, nil, from(0, q)...),
		"one of another body":    append(of(from(0, q-1)...), votes(kind, b, slot, nil, q-1)...),
		"the first another kind": append(votes(kind+1, b, slot, body, 0), of(from(1, q-1)...)...),
	}
	for _, by := range []int{-4, -1, 1, 4, 1 << 32} {
		out[fmt.Sprintf("a slot %d more", by)] = votes(kind, b, slot+by, body, from(0, q)...)
		out[fmt.Sprintf("a view %d more", by)] = votes(kind, api.Ballot{View: b.View + by, Turn: b.Turn}, slot, body, from(0, q)...)
		out[fmt.Sprintf("a turn %d more", by)] = votes(kind, api.Ballot{View: b.View, Turn: b.Turn + by}, slot, body, from(0, q)...)
	}
	for other := range 27 {
		if other != kind {
			out[fmt.Sprintf("kind %d", other)] = votes(other, b, slot, body, from(0, q)...)
		}
	}
	for i := range q {
		v := right()
		v[i].Sig[i] ^= 1
		out[fmt.Sprintf("vote %d with a bit turned", i)] = v
		v = right()
		v[i].Sig = nil
		out[fmt.Sprintf("vote %d without a Sig", i)] = v
		v = right()
		v[i].Sig = v[(i+1)%q].Sig
		out[fmt.Sprintf("vote %d with another's Sig", i)] = v
	}
	return out
}

// notGood are requests that nobody asked, or that ask for no operation, each by what is wrong with it.
func notGood() map[string]api.Req {
	change := func(f func(r *api.Req)) api.Req {
		r := put(2, 9)
		f(&r)
		return r
	}
	op := put(2, 9).Op
	out := map[string]api.Req{
		"no Sig":               change(func(r *api.Req) { r.Sig = nil }),
		"a Sig cut short":      change(func(r *api.Req) { r.Sig = r.Sig[:31] }),
		"a longer Sig":         change(func(r *api.Req) { r.Sig = append(r.Sig, 0) }),
		"a bit turned":         change(func(r *api.Req) { r.Sig[31] ^= 128 }),
		"another's Sig":        change(func(r *api.Req) { r.Sig = asked(1, 9, op).Sig }),
		"another's Client":     change(func(r *api.Req) { r.Client = 1 }),
		"another Stamp":        change(func(r *api.Req) { r.Stamp = 10 }),
		"another Op":           change(func(r *api.Req) { r.Op = put(2, 8).Op }),
		"the Sig of a replica": change(func(r *api.Req) { r.Sig = sign(2, "request", numbers(2, 9), op) }),
		"no operation":         asked(2, 9, []byte("x")),
		"no Op":                asked(2, 9, nil),
		"an Op cut short":      asked(2, 9, op[:len(op)-1]),
		"a longer Op":          asked(2, 9, append(slices.Clone(op), 0)),
		"an Op of 257 bytes":   asked(2, 9, append(slices.Clone(op), make([]byte, 257-len(op))...)),
		"a kind of no Op":      asked(2, 9, []byte{9, 1, 'a', 0, 0, 0}),
		"an Op without a Name": asked(2, 9, []byte{1, 0, 0, 0, 0}),
		"zero bytes":           asked(2, 9, []byte{0}),
		"client 0":             asked(0, 9, op),
		"client 5":             asked(5, 9, op),
		"client -1":            asked(-1, 9, op),
		"Stamp 0":              asked(2, 0, op),
		"Stamp -1":             asked(2, -1, op),
		"a Stamp too great":    asked(2, greatest+1, op),
	}
	return out
}

// zero is the request that does nothing: it isn't GOOD, but may be picked.
var zero api.Req

// ballots that rise.
var (
	b00 = api.Ballot{}
	b02 = api.Ballot{Turn: 2}
	b10 = api.Ballot{View: 1}
	b11 = api.Ballot{View: 1, Turn: 1}
	b20 = api.Ballot{View: 2}
	b50 = api.Ballot{View: 5}
)
