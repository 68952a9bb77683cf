// Package rules holds tests of what DOC.md's section 'Rules that hold everywhere' says of the memory of calls, layer by layer.
package rules

import (
	"reflect"
	"testing"

	"catenary/api"
	"catenary/clone"
	"catenary/vote"
)

// aMsg has something in each field.
func aMsg() api.Msg {
	b := api.Ballot{View: 1, Turn: 2}
	report := api.Report{Ballot: b, Replica: 3, Low: 4, Digest: []byte("digest"), Stable: someVotes(), Preps: []api.Prep{aPrep(), aPrep()}, Sig: []byte("sig")}
	return api.Msg{
		Kind: api.KNew, Ballot: b, Slot: 5, From: 6, To: 7, Index: 8, Count: 9, Req: aReq(), Other: aReq(), Data: []byte("data"), Sig: []byte("sig"),
		Cert: someVotes(), Votes: someVotes(), Order: []int{1, 0}, Picks: []api.Req{aReq(), aReq()}, Reports: []api.Report{report, report},
	}
}

func aReq() api.Req { return api.Req{Client: 1, Stamp: 2, Op: []byte("op"), Sig: []byte("sig")} }

func someVotes() []api.Vote {
	return []api.Vote{{Signer: 3, Sig: []byte("three")}, {Signer: 1}, {Signer: 2, Sig: []byte("two")}, {Signer: 2, Sig: []byte("again")}}
}

func aPrep() api.Prep {
	return api.Prep{Slot: 3, Ballot: api.Ballot{View: 1}, Req: aReq(), Cert: someVotes()}
}

func TestClones(t *testing.T) {
	m := aMsg()
	for _, c := range []call{
		{"Req", clone.Req, []any{m.Req}},
		{"Req of none", clone.Req, []any{api.Req{}}},
		{"Reqs", clone.Reqs, []any{m.Picks}},
		{"Reqs of none", clone.Reqs, []any{[]api.Req{}}},
		{"Vote", clone.Vote, []any{m.Cert[0]}},
		{"Votes", clone.Votes, []any{m.Cert}},
		{"Votes of none", clone.Votes, []any{[]api.Vote{}}},
		{"Prep", clone.Prep, []any{aPrep()}},
		{"Report", clone.Report, []any{m.Reports[0]}},
		{"Msg", clone.Msg, []any{m}},
		{"Msg of none", clone.Msg, []any{api.Msg{}}},
		{"Entry", clone.Entry, []any{someEntries()[0]}},
		{"Entry of none", clone.Entry, []any{api.Entry{}}},
		{"Entries", clone.Entries, []any{someEntries()}},
		{"Entries of none", clone.Entries, []any{[]api.Entry{}}},
		{"Lease", clone.Lease, []any{someLeases()[0]}},
		{"Lease of none", clone.Lease, []any{api.Lease{}}},
		{"Leases", clone.Leases, []any{someLeases()}},
		{"Leases of none", clone.Leases, []any{[]api.Lease{}}},
		{"Result", clone.Result, []any{someSessions()[0].Result}},
		{"Result of none", clone.Result, []any{api.Result{}}},
		{"Session", clone.Session, []any{someSessions()[0]}},
		{"Session of none", clone.Session, []any{api.Session{}}},
		{"App", clone.App, []any{someState()}},
		{"App of none", clone.App, []any{api.App{}}},
		{"Packet", clone.Packet, []any{somePackets()[0]}},
		{"Packet of none", clone.Packet, []any{api.Packet{}}},
		{"Slot", clone.Slot, []any{aSlot()}},
		{"Slot of none", clone.Slot, []any{api.Slot{}}},
	} {
		keepsRules(t, c)
		if got := c.do(c.values()); !same(got[0], reflect.ValueOf(c.args[0])) {
			t.Errorf("%s made %v of %v", c.name, got[0], c.args[0])
		}
	}
}

func TestVotes(t *testing.T) {
	b := api.Ballot{View: 1, Turn: 2}
	body := []byte("body")
	made := vote.Make(api.KAck, b, 3, body, 1)
	certs := [][]api.Vote{nil, someVotes(), {vote.Make(api.KAck, b, 3, body, 0), made, vote.Make(api.KAck, b, 3, body, 2)}}
	var calls []call
	for _, signer := range []int{-1, 0, 15, 16} {
		calls = append(calls,
			call{"Text", vote.Text, []any{api.KAck, b, 3, body, signer}},
			call{"Text of no body", vote.Text, []any{api.KAck, b, 3, []byte{}, signer}},
			call{"Make", vote.Make, []any{api.KAck, b, 3, body, signer}},
			call{"Right", vote.Right, []any{api.KAck, b, 3, body, api.Vote{Signer: signer, Sig: made.Sig}}},
		)
	}
	for _, votes := range certs {
		calls = append(calls,
			call{"Cert", vote.Cert, []any{api.KAck, b, 3, body, votes, 4}},
			call{"Cert of wrong n", vote.Cert, []any{api.KAck, b, 3, body, votes, 3}},
			call{"Sort", vote.Sort, []any{votes}},
		)
	}
	calls = append(calls, call{"Right of a right one", vote.Right, []any{api.KAck, b, 3, body, made}})
	for _, c := range calls {
		keepsRules(t, c)
	}
}

func TestRequests(t *testing.T) {
	for _, r := range []api.Req{{}, aReq(), vote.Ask(aReq()), {Client: 28, Op: []byte("op"), Sig: []byte("sig")}, {Client: 1, Sig: []byte("sig")}} {
		keepsRules(t, call{"AskText", vote.AskText, []any{r}})
		keepsRules(t, call{"Ask", vote.Ask, []any{r}})
		keepsRules(t, call{"Asked", vote.Asked, []any{r}})
	}
}

// sealable are messages with all fields, and with those that their kinds have.
func sealable() []api.Msg {
	all := aMsg()
	out := []api.Msg{{}, all}
	for kind := range 27 {
		m := all
		m.Kind = kind
		out = append(out, m, api.Msg{Kind: kind, Sig: all.Sig})
	}
	one := api.Msg{Kind: api.KReport, Reports: all.Reports[:1]}
	unwritable := one
	unwritable.Order = all.Order
	return append(out,
		one, unwritable, vote.Seal(one, 3),
		api.Msg{Kind: api.KReport, Reports: all.Reports},
		api.Msg{Kind: api.KNew, Ballot: all.Ballot, Sig: all.Sig, Order: all.Order, Reports: all.Reports},
		api.Msg{Kind: api.KNew, Ballot: all.Ballot, Order: all.Order, Reports: all.Reports[:1]},
		api.Msg{Kind: api.KAck, Ballot: all.Ballot, Slot: 5, Req: all.Req, Cert: all.Cert, Votes: all.Votes},
		api.Msg{Kind: api.KEvidence, Ballot: all.Ballot, Req: all.Req, Other: all.Other, Data: all.Data, Sig: all.Sig},
		api.Msg{Kind: api.KEnter, Order: all.Order, Picks: all.Picks},
		vote.Seal(api.Msg{Kind: api.KReply, Data: all.Data}, 3),
	)
}

func TestMessages(t *testing.T) {
	for _, m := range sealable() {
		for _, signer := range []int{-1, 3, 16} {
			keepsRules(t, call{"SealText", vote.SealText, []any{m, signer}})
			keepsRules(t, call{"Seal", vote.Seal, []any{m, signer}})
			keepsRules(t, call{"Sealed", vote.Sealed, []any{m, signer}})
		}
	}
}

func TestVotesHangOnArguments(t *testing.T) { // P2: whatever was asked ahead, or refused
	m := api.Msg{Kind: api.KReport, Reports: aMsg().Reports[:1]}
	sealed, asked, made := vote.Seal(m, 3), vote.Ask(aReq()), vote.Make(api.KAck, api.Ballot{}, 4, nil, 2)
	for _, other := range sealable() {
		vote.Seal(other, -1)
		vote.Sealed(other, 5)
		vote.Ask(api.Req{Client: other.Kind, Op: other.Data})
		vote.Make(other.Kind, other.Ballot, other.Slot, other.Data, 3)
		if !same(reflect.ValueOf(vote.Seal(m, 3)), reflect.ValueOf(sealed)) || !vote.Sealed(sealed, 3) || !vote.Asked(asked) || !vote.Right(api.KAck, api.Ballot{}, 4, nil, made) {
			t.Errorf("another answer behind calls with %v", other)
		}
	}
}
