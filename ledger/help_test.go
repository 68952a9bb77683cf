package ledger

import (
	"bytes"
	"encoding/binary"
	"fmt"
	"math"
	"strings"
	"testing"

	"catenary/api"
	"catenary/msg"
	"catenary/vote"
)

const (
	// mostSeen is MaxSeen, as the document has it.
	mostSeen = 8192
	// signers is how many replicas have a key.
	signers = 16
)

// paper is what votes are for, but for the request.
type paper struct {
	kind   int
	ballot api.Ballot
	slot   int
}

// chain and ack are at one slot of one ballot.
var (
	chain = paper{2, api.Ballot{View: 1, Turn: 2}, 3}
	ack   = paper{3, api.Ballot{View: 1, Turn: 2}, 3}
)

// papers differ from chain in one thing each, or in two that are swapped; chain is the first.
func papers() []paper {
	out := []paper{chain, ack}
	for _, n := range []int{math.MinInt, -1, 0, 4, 1 << 32, 1<<32 + 1, 1<<32 + 2, 1<<32 + 3, math.MaxInt} {
		out = append(out,
			paper{2, api.Ballot{View: n, Turn: 2}, 3},
			paper{2, api.Ballot{View: 1, Turn: n}, 3},
			paper{2, api.Ballot{View: 1, Turn: 2}, n},
		)
	}
	return append(out, paper{2, api.Ballot{View: 2, Turn: 1}, 3}, paper{2, api.Ballot{View: 3, Turn: 2}, 1}, paper{2, api.Ballot{View: 1, Turn: 3}, 2}, paper{3, api.Ballot{View: 1, Turn: 2}, 2})
}

// at is the paper at another slot.
func (p paper) at(slot int) paper {
	p.slot = slot
	return p
}

// vote is a signer's right vote.
func (p paper) vote(r api.Req, signer int) api.Vote {
	return vote.Make(p.kind, p.ballot, p.slot, msg.Body(r), signer)
}

// votes are right ones, in the order of the signers.
func (p paper) votes(r api.Req, signers ...int) []api.Vote {
	var out []api.Vote
	for _, s := range signers {
		out = append(out, p.vote(r, s))
	}
	return out
}

// give hands votes to a ledger, whatever they are for.
func (p paper) give(l *Ledger, r api.Req, votes ...api.Vote) []api.Msg {
	return l.Note(p.kind, p.ballot, p.slot, r, votes...)
}

// note hands the signers' right votes to a ledger, in one call.
func (p paper) note(l *Ledger, r api.Req, signers ...int) []api.Msg {
	return p.give(l, r, p.votes(r, signers...)...)
}

// evidence is what is told of a signer of two requests, of which the first one's Body comes first.
func (p paper) evidence(signer int, first, second api.Req) api.Msg {
	return api.Msg{
		Kind: 13, Index: p.kind, Ballot: p.ballot, Slot: p.slot, From: signer,
		Req: first, Sig: p.vote(first, signer).Sig, Other: second, Data: p.vote(second, signer).Sig,
	}
}

// evidences are those of several signers.
func (p paper) evidences(first, second api.Req, signers ...int) []api.Msg {
	var out []api.Msg
	for _, s := range signers {
		out = append(out, p.evidence(s, first, second))
	}
	return out
}

// spell writes messages out, field by field; a list that is nil and an empty one are written the same.
func spell(messages []api.Msg) string { return fmt.Sprintf("%d %+v", len(messages), messages) }

// tells asks that just these evidences were told, and that so many votes are kept then.
func tells(t *testing.T, what string, l *Ledger, got []api.Msg, kept int, want ...api.Msg) {
	t.Helper()
	if spell(got) != spell(want) {
		t.Fatalf("%s: told %.600s; want %.600s", what, spell(got), spell(want))
	}
	holds(t, what, l, kept)
}

// holds asks how many votes are kept, twice: asking changes nothing.
func holds(t *testing.T, what string, l *Ledger, kept int) {
	t.Helper()
	if one, two := l.Len(), l.Len(); one != kept || two != kept {
		t.Fatalf("%s: %d votes are kept, and then %d; want %d", what, one, two, kept)
	}
}

// a, b and c are requests whose Bodies rise.
func a() api.Req { return api.Req{Client: 1, Stamp: 1, Op: []byte("a")} }
func b() api.Req { return api.Req{Client: 1, Stamp: 1, Op: []byte("b")} }
func c() api.Req { return api.Req{Client: 1, Stamp: 1, Op: []byte("c")} }

// rising are requests whose Bodies rise, though often not their fields: the lowest byte of a number, and a text's length, come first.
func rising() []api.Req {
	text := func(s string) []byte { return []byte(s) }
	return []api.Req{
		{}, {Sig: text("x")}, {Sig: text("y")}, {Sig: text("aa")},
		{Op: text("b")}, {Op: text("b"), Sig: text("a")}, {Op: text("b"), Sig: text("b")}, {Op: text("c")}, {Op: text("aa")},
		{Op: text(strings.Repeat("z", 127))}, {Op: text(strings.Repeat("a", 128))}, {Op: text(strings.Repeat("a", 127) + "b")},
		{Stamp: math.MinInt}, {Stamp: 1 << 32}, {Stamp: 256}, {Stamp: 1}, {Stamp: 1, Sig: text("x")}, {Stamp: 257}, {Stamp: 2}, {Stamp: -2}, {Stamp: -1},
		{Client: math.MinInt}, {Client: 1 << 32}, {Client: 256, Stamp: 9}, {Client: 1}, a(), b(), c(), {Client: 257}, {Client: 2}, {Client: math.MaxInt}, {Client: math.MaxInt, Stamp: 1},
	}
}

// body is a request's Body, made without the layer below.
func body(r api.Req) []byte {
	var out []byte
	for _, n := range []int{r.Client, r.Stamp} {
		out = binary.LittleEndian.AppendUint64(out, uint64(n))
	}
	for _, p := range [][]byte{r.Op, r.Sig} {
		out = append(binary.AppendUvarint(out, uint64(len(p))), p...)
	}
	return out
}

// firstOf are two requests, the one whose Body comes first ahead.
func firstOf(r, s api.Req) (api.Req, api.Req) {
	if bytes.Compare(body(r), body(s)) > 0 {
		return s, r
	}
	return r, s
}

// all are the numbers of all signers with a key.
func all() []int {
	var out []int
	for s := range signers {
		out = append(out, s)
	}
	return out
}
