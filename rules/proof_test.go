package rules

import (
	"bytes"
	"strconv"
	"testing"

	"catenary/api"
	"catenary/msg"
	"catenary/proof"
)

// anEvidence is a right one, of replica 3.
func anEvidence() api.Msg { return evidencesOf(rivals()[1], rivals()[2], 3)[0] }

// evidencesOfAllWays are such as Make takes all ways with: right ones, one that can't be written, and such as are no proof.
func evidencesOfAllWays() []api.Msg {
	out := []api.Msg{{}, {Kind: api.KEvidence}, aMsg()}
	for _, now := range rivals()[1:] {
		out = append(out, evidencesOf(rivals()[0], now, 0, 3, 15)...)
	}
	for _, change := range []func(e *api.Msg){
		func(e *api.Msg) { e.Kind = api.KChain },
		func(e *api.Msg) { e.Slot = -1 },
		func(e *api.Msg) { e.From = 16 },
		func(e *api.Msg) { e.Index = api.KCommit },
		func(e *api.Msg) { e.Req, e.Other = e.Other, e.Req },
		func(e *api.Msg) { e.Sig = e.Data },
		func(e *api.Msg) { e.Data = nil },
		func(e *api.Msg) { e.Votes = someVotes() },
		func(e *api.Msg) { e.Cert, e.Order, e.Reports = []api.Vote{}, []int{}, []api.Report{} },
	} {
		e := anEvidence()
		change(&e)
		out = append(out, e)
	}
	return out
}

// proofBytes are the bytes of those that can be written, and such as are no message.
func proofBytes() [][]byte {
	out := [][]byte{nil, {}, {13}, bytes.Repeat([]byte{13}, 40)}
	for _, e := range evidencesOfAllWays() {
		if b, wrong := msg.Encode(e); wrong == api.OK {
			out = append(out, b, b[:len(b)-1], append(bytes.Clone(b), 0))
		}
	}
	return out
}

func TestProofs(t *testing.T) {
	made := 0
	for i, e := range evidencesOfAllWays() {
		keepsRules(t, call{"Make of evidence " + strconv.Itoa(i), proof.Make, []any{e}})
		if _, wrong := proof.Make(e); wrong == api.OK {
			made++
		}
	}
	if made != 10 {
		t.Errorf("%d evidences were made proofs", made)
	}
	for i, b := range proofBytes() {
		for _, n := range []int{-4, 0, 4, 5, 16} {
			keepsRules(t, call{"Check of bytes " + strconv.Itoa(i), proof.Check, []any{b, n}})
		}
	}
}

func TestProofsHangOnArguments(t *testing.T) { // P2: whatever was asked ahead, or refused
	right, _ := proof.Make(anEvidence())
	for _, other := range evidencesOfAllWays() {
		proof.Make(other)
		for _, b := range proofBytes() {
			proof.Check(b, 4)
		}
		again, wrong := proof.Make(anEvidence())
		if who, no := proof.Check(right, 4); who != 3 || no != api.OK || wrong != api.OK || !bytes.Equal(again, right) {
			t.Errorf("another answer behind calls with %v", other)
		}
	}
}

func TestProofsTakeEmptyListsForNone(t *testing.T) { // nil and empty are one
	none := evidencesOf(api.Req{}, rivals()[1], 3)[0]
	empty := none
	empty.Req = api.Req{Op: []byte{}, Sig: []byte{}}
	empty.Cert, empty.Votes, empty.Order, empty.Picks, empty.Reports = []api.Vote{}, []api.Vote{}, []int{}, []api.Req{}, []api.Report{}
	one, wrong := proof.Make(none)
	two, no := proof.Make(empty)
	if wrong != api.OK || no != api.OK || !bytes.Equal(one, two) {
		t.Errorf("%v, %v and %v, %v", one, wrong, two, no)
	}
	if who, no := proof.Check(one, 4); who != 3 || no != api.OK {
		t.Errorf("Check: %d, %v", who, no)
	}
}
