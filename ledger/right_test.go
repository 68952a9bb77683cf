package ledger

import (
	"bytes"
	"crypto/sha256"
	"fmt"
	"math"
	"testing"

	"catenary/api"
	"catenary/vote"
)

// wrongVotes are signer 3's, 4's, or nobody's, by what is wrong with them: none is Right for a at chain.
func wrongVotes() map[string]api.Vote {
	out := map[string]api.Vote{}
	for i, p := range papers()[1:] {
		out[fmt.Sprintf("for paper %d", i+1)] = p.vote(a(), 3)
	}
	for i, r := range rising() {
		if !bytes.Equal(body(r), body(a())) {
			out[fmt.Sprintf("for request %d", i)] = chain.vote(r, 3)
		}
	}
	for kind := range 30 {
		if kind != chain.kind {
			out[fmt.Sprintf("of kind %d", kind)] = paper{kind, chain.ballot, chain.slot}.vote(a(), 3)
		}
	}
	right := chain.vote(a(), 3).Sig
	for i := range right {
		turned := bytes.Clone(right)
		turned[i] ^= 1 << (i % 8)
		out[fmt.Sprintf("with byte %d turned", i)] = api.Vote{Signer: 3, Sig: turned}
	}
	out["without a Sig"] = api.Vote{Signer: 3}
	out["with an empty Sig"] = api.Vote{Signer: 3, Sig: []byte{}}
	out["with zeros"] = api.Vote{Signer: 3, Sig: make([]byte, 32)}
	out["with a Sig cut"] = api.Vote{Signer: 3, Sig: right[:31]}
	out["with a longer Sig"] = api.Vote{Signer: 3, Sig: append(bytes.Clone(right), 0)}
	out["with the Sig of another"] = api.Vote{Signer: 4, Sig: right}
	out["with the Sig for no request"] = vote.Make(chain.kind, chain.ballot, chain.slot, nil, 3)
	out["with the Sig for the Op alone"] = vote.Make(chain.kind, chain.ballot, chain.slot, a().Op, 3)
	out["with the request's own Sig"] = api.Vote{Signer: 3, Sig: vote.Ask(a()).Sig}
	hash := sha256.Sum256(nil)
	for _, s := range []int{math.MinInt, -1, 16, 17, 99, 101, 127, 1<<32 + 3, math.MaxInt} {
		out[fmt.Sprintf("of signer %d", s)] = chain.vote(a(), s)
		out[fmt.Sprintf("of signer %d with 3's Sig", s)] = api.Vote{Signer: s, Sig: right}
		out[fmt.Sprintf("of signer %d with the hash of nothing", s)] = api.Vote{Signer: s, Sig: hash[:]}
	}
	return out
}

func TestWrongVotesAreNotKept(t *testing.T) { // P15.1
	for what, wrong := range wrongVotes() {
		l := New()
		tells(t, "a vote "+what, l, chain.give(l, a(), wrong), 0)
		tells(t, "such votes "+what, l, chain.give(l, a(), wrong, wrong), 0)
		// If it were kept, this would be a conflict.
		tells(t, "a vote behind one "+what, l, chain.note(l, b(), 3, 4), 2)
	}
}

func TestWrongVotesAreNoConflict(t *testing.T) { // P15.1: nothing is told of them, and a right one behind them is told still
	for what, wrong := range wrongVotes() {
		l := New()
		chain.note(l, b(), 3, 4)
		tells(t, "a vote "+what, l, chain.give(l, a(), wrong), 2)
		tells(t, "a right one behind one "+what, l, chain.note(l, a(), 3), 2, chain.evidence(3, a(), b()))
	}
}

func TestWrongVotesAmongRightOnes(t *testing.T) { // P15.1: those alone that are Right
	for what, wrong := range wrongVotes() {
		l := New()
		two, nine := chain.vote(a(), 2), chain.vote(a(), 9)
		tells(t, "with a vote "+what, l, chain.give(l, a(), wrong, two, wrong, nine, wrong), 2)
		tells(t, "another request", l, chain.note(l, b(), 3, 4, 9, 2), 4, chain.evidences(a(), b(), 9, 2)...)
		tells(t, "conflicts with a vote "+what, l, chain.give(l, a(), wrong, chain.vote(a(), 4), wrong, chain.vote(a(), 3), wrong), 4, chain.evidences(a(), b(), 4, 3)...)
	}
}

func TestRightVotesForAnother(t *testing.T) { // P15.1: handed in for another kind, ballot, slot or request than they are for
	for i, p := range papers() {
		for k, q := range papers() {
			if i == k {
				continue
			}
			l := New()
			tells(t, fmt.Sprintf("votes for paper %d at paper %d", i, k), l, q.give(l, a(), p.votes(a(), 0, 1, 2)...), 0)
		}
	}
	for i, r := range rising() {
		for k, s := range rising() {
			if i == k {
				continue
			}
			l := New()
			tells(t, fmt.Sprintf("a vote for request %d with request %d", i, k), l, ack.give(l, s, ack.vote(r, 1)), 0)
		}
	}
}

func TestEverySigner(t *testing.T) { // P15.1: just those with a key are kept
	l := New()
	kept := 0
	for s := -20; s < 140; s++ {
		if s >= 0 && s < signers {
			kept++
		}
		tells(t, fmt.Sprintf("signer %d", s), l, chain.note(l, a(), s), kept)
	}
	for s := -20; s < 140; s++ {
		var want []api.Msg
		if s >= 0 && s < signers {
			want = chain.evidences(a(), b(), s)
		}
		tells(t, fmt.Sprintf("signer %d", s), l, chain.note(l, b(), s), signers, want...)
	}
}
