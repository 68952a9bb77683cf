package proof

import (
	"bytes"
	"crypto/sha256"
	"fmt"
	"math"
	"testing"

	"catenary/api"
	"catenary/vote"
)

// wrongSigs are none of replica 3's vote for a request at the right evidence's place, by what is wrong with them.
func wrongSigs(r api.Req) map[string][]byte {
	e := evidence()
	right := sign(e.Index, e.Ballot, e.Slot, r, e.From)
	out := map[string][]byte{
		"missing":             nil,
		"empty":               {},
		"zeros":               make([]byte, 32),
		"cut":                 right[:31],
		"without its first":   right[1:],
		"longer":              append(bytes.Clone(right), 0),
		"twice":               append(bytes.Clone(right), right...),
		"the longest":         bytes.Repeat([]byte{1}, longest),
		"too long":            bytes.Repeat([]byte{1}, longest+1),
		"the request's own":   r.Sig,
		"a client's":          vote.Ask(r).Sig,
		"for no body":         vote.Make(e.Index, e.Ballot, e.Slot, nil, e.From).Sig,
		"for the Op alone":    vote.Make(e.Index, e.Ballot, e.Slot, r.Op, e.From).Sig,
		"of a sealed message": vote.Seal(api.Msg{Kind: 6, Ballot: e.Ballot, From: 3}, 3).Sig,
		"for another request": sign(e.Index, e.Ballot, e.Slot, api.Req{Client: 1, Stamp: 8, Op: []byte("mid")}, e.From),
	}
	plain := sha256.Sum256(body(r))
	out["the hash of the Body"] = plain[:]
	for i := range right {
		turned := bytes.Clone(right)
		turned[i] ^= 1 << (i % 8)
		out[fmt.Sprintf("byte %d turned", i)] = turned
	}
	for n := range 30 {
		if n != e.From {
			out[fmt.Sprintf("of signer %d", n)] = sign(e.Index, e.Ballot, e.Slot, r, n)
		}
		if n != e.Index {
			out[fmt.Sprintf("of index %d", n)] = sign(n, e.Ballot, e.Slot, r, e.From)
		}
	}
	for _, n := range []int{math.MinInt, -1, 0, 1, 4, 8, 1 << 32, 1<<32 + 5, 1<<32 + 6, 1<<32 + 7, math.MaxInt} {
		out[fmt.Sprintf("of view %d", n)] = sign(e.Index, api.Ballot{View: n, Turn: e.Ballot.Turn}, e.Slot, r, e.From)
		out[fmt.Sprintf("of turn %d", n)] = sign(e.Index, api.Ballot{View: e.Ballot.View, Turn: n}, e.Slot, r, e.From)
		out[fmt.Sprintf("of slot %d", n)] = sign(e.Index, e.Ballot, n, r, e.From)
	}
	out["of view and turn swapped"] = sign(e.Index, api.Ballot{View: e.Ballot.Turn, Turn: e.Ballot.View}, e.Slot, r, e.From)
	for i, s := range []api.Req{
		{Client: 2, Stamp: r.Stamp, Op: r.Op, Sig: r.Sig},
		{Client: r.Client, Stamp: 9, Op: r.Op, Sig: r.Sig},
		{Client: r.Stamp, Stamp: r.Client, Op: r.Op, Sig: r.Sig},
		{Client: r.Client, Stamp: r.Stamp, Op: r.Sig, Sig: r.Op},
		{Client: r.Client, Stamp: r.Stamp, Op: r.Op},
		{Client: r.Client, Stamp: r.Stamp, Sig: r.Sig},
		{},
	} {
		out[fmt.Sprintf("for unlike request %d", i)] = sign(e.Index, e.Ballot, e.Slot, s, e.From)
	}
	return out
}

func TestWrongSigs(t *testing.T) { // P16.1, P16.2: each of the two, and both
	makes(t, "ahead of wrong Sigs", evidence())
	forOther := wrongSigs(evidence().Other)
	for what, sig := range wrongSigs(evidence().Req) {
		refuses(t, "the Sig for Req: "+what, but(func(e *api.Msg) { e.Sig = sig }))
		refuses(t, "the Sig for Other: "+what, but(func(e *api.Msg) { e.Data = forOther[what] }))
		refuses(t, "both Sigs: "+what, but(func(e *api.Msg) { e.Sig, e.Data = sig, forOther[what] }))
	}
}

func TestChangedForOneAnother(t *testing.T) { // P16.1, P16.2
	refuses(t, "the Sigs swapped", but(func(e *api.Msg) { e.Sig, e.Data = e.Data, e.Sig }))
	refuses(t, "the Sig for Req twice", but(func(e *api.Msg) { e.Data = e.Sig }))
	refuses(t, "the Sig for Other twice", but(func(e *api.Msg) { e.Sig = e.Data }))
	refuses(t, "the requests swapped", but(func(e *api.Msg) { e.Req, e.Other = e.Other, e.Req }))
	refuses(t, "requests and Sigs swapped", but(func(e *api.Msg) { e.Req, e.Sig, e.Other, e.Data = e.Other, e.Data, e.Req, e.Sig }))
	refuses(t, "Req twice", but(func(e *api.Msg) { e.Other, e.Data = e.Req, e.Sig }))
	refuses(t, "Other twice", but(func(e *api.Msg) { e.Req, e.Sig = e.Other, e.Data }))
	refuses(t, "the requests' own Sigs", but(func(e *api.Msg) { e.Sig, e.Data = e.Req.Sig, e.Other.Sig }))
}

func TestChangedBehindTheVotes(t *testing.T) { // P16.1, P16.2: what the evidence says is what the votes are for
	for i, change := range []func(e *api.Msg){
		func(e *api.Msg) { e.From = 0 }, func(e *api.Msg) { e.From = 2 }, func(e *api.Msg) { e.From = 15 },
		func(e *api.Msg) { e.Index = 3 },
		func(e *api.Msg) { e.Ballot.View++ }, func(e *api.Msg) { e.Ballot.View = 0 }, func(e *api.Msg) { e.Ballot.Turn++ }, func(e *api.Msg) { e.Ballot.Turn = 0 },
		func(e *api.Msg) { e.Ballot.View, e.Ballot.Turn = e.Ballot.Turn, e.Ballot.View },
		func(e *api.Msg) { e.Slot++ }, func(e *api.Msg) { e.Slot = 0 }, func(e *api.Msg) { e.Slot, e.Ballot.View = e.Ballot.View, e.Slot },
		func(e *api.Msg) { e.Req.Client = 0 }, func(e *api.Msg) { e.Req.Stamp = 1 }, func(e *api.Msg) { e.Req.Op = []byte("lov") }, func(e *api.Msg) { e.Req.Op = nil }, func(e *api.Msg) { e.Req.Sig = []byte("asked lov") }, func(e *api.Msg) { e.Req.Sig = nil },
		func(e *api.Msg) { e.Req = api.Req{} },
		func(e *api.Msg) { e.Other.Client = 2 }, func(e *api.Msg) { e.Other.Stamp = 9 }, func(e *api.Msg) { e.Other.Op = []byte("toq") }, func(e *api.Msg) { e.Other.Op = []byte("longer") }, func(e *api.Msg) { e.Other.Sig = []byte("asked toq") }, func(e *api.Msg) { e.Other.Sig = nil },
	} {
		e := but(change)
		if bytes.Compare(body(e.Req), body(e.Other)) >= 0 {
			t.Fatalf("change %d: the order alone would be wrong", i)
		}
		refuses(t, fmt.Sprintf("change %d behind the votes", i), e)
		makes(t, fmt.Sprintf("change %d ahead of the votes", i), with(change))
	}
}

func TestVotesOfTwoPlaces(t *testing.T) { // P16.1: who voted for two requests at two places has done nothing wrong
	at := evidence()
	for i, change := range []func(e *api.Msg){
		func(e *api.Msg) { e.From = 2 }, func(e *api.Msg) { e.Index = 3 },
		func(e *api.Msg) { e.Ballot.View++ }, func(e *api.Msg) { e.Ballot.Turn++ }, func(e *api.Msg) { e.Slot++ },
	} {
		there := with(change)
		for _, e := range []api.Msg{at, there} {
			e.Sig, e.Data = at.Sig, there.Data
			refuses(t, fmt.Sprintf("change %d: Req at the one place, Other at the other", i), e)
			e.Sig, e.Data = there.Sig, at.Data
			refuses(t, fmt.Sprintf("change %d: Other at the one place, Req at the other", i), e)
		}
	}
}
