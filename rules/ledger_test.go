package rules

import (
	"reflect"
	"strconv"
	"testing"

	"catenary/api"
	"catenary/ledger"
	"catenary/msg"
	"catenary/vote"
)

const votedSlot = 6

var votedBallot = api.Ballot{View: 1, Turn: 2}

// rivals are requests whose bodies rise.
func rivals() []api.Req {
	return []api.Req{{}, {Client: 1, Stamp: 2, Op: []byte("first"), Sig: []byte("one")}, {Client: 1, Stamp: 2, Op: []byte("third"), Sig: []byte("two")}, {Client: 1, Stamp: 2, Op: []byte("third"), Sig: []byte("twp")}}
}

// votesFor are right ones of some signers.
func votesFor(r api.Req, signers ...int) []api.Vote {
	var out []api.Vote
	for _, s := range signers {
		out = append(out, vote.Make(api.KAck, votedBallot, votedSlot, msg.Body(r), s))
	}
	return out
}

// noteVotes hands votes to a ledger.
func noteVotes(l *ledger.Ledger, r api.Req, votes []api.Vote) []api.Msg {
	return l.Note(api.KAck, votedBallot, votedSlot, r, votes...)
}

// ledgers are such ways to make a ledger that Note takes all ways: nothing is kept, other votes, votes for each request, told conflicts, no room.
func ledgers() map[string]func() *ledger.Ledger {
	out := map[string]func() *ledger.Ledger{
		"an empty ledger": ledger.New,
		"a cut ledger": func() *ledger.Ledger {
			l := ledger.New()
			noteVotes(l, rivals()[0], votesFor(rivals()[0], 1, 2, 3))
			l.Cut(votedSlot)
			return l
		},
		"a ledger with told conflicts": func() *ledger.Ledger {
			l := ledger.New()
			noteVotes(l, rivals()[0], votesFor(rivals()[0], 1, 2, 3))
			noteVotes(l, rivals()[2], votesFor(rivals()[2], 1, 3))
			return l
		},
	}
	for i, r := range rivals() {
		out["a ledger with request "+strconv.Itoa(i)] = func() *ledger.Ledger {
			l := ledger.New()
			noteVotes(l, r, votesFor(r, 1, 2, 3))
			return l
		}
	}
	return out
}

// fullLedger has no room, and votes for a request that isn't one of the rivals.
func fullLedger() *ledger.Ledger {
	l, r := ledger.New(), api.Req{Client: 4}
	noteVotes(l, r, votesFor(r, 1, 2))
	for i := range api.MaxSeen / 16 {
		slot := votedSlot + 1 + i
		for s := range 16 {
			l.Note(api.KAck, votedBallot, slot, r, vote.Make(api.KAck, votedBallot, slot, msg.Body(r), s))
		}
	}
	return l
}

// voteLists are right ones, wrong ones, both, and none, for a request.
func voteLists(r api.Req) [][]api.Vote {
	return [][]api.Vote{nil, {}, votesFor(r, 2), votesFor(r, 3, 1, 2, 1, 7), append(someVotes(), votesFor(r, 2, 1)...), someVotes(), votesFor(aReq(), 1, 2)}
}

func TestLedgers(t *testing.T) {
	for which, start := range ledgers() {
		for i, r := range rivals() {
			for k, votes := range voteLists(r) {
				for _, kind := range []int{api.KAck, api.KChain, api.KCommit} {
					name := "Note of kind " + strconv.Itoa(kind) + ", request " + strconv.Itoa(i) + ", votes " + strconv.Itoa(k) + " to " + which
					keepsRules(t, call{name, func(r api.Req, votes ...api.Vote) ([]api.Msg, int) {
						l := start()
						return l.Note(kind, votedBallot, votedSlot, r, votes...), l.Len()
					}, []any{r, votes}})
				}
			}
		}
	}
}

func TestFullLedgers(t *testing.T) { // one ledger for all calls: none of them changes it
	l := fullLedger()
	for i, r := range append(rivals(), api.Req{Client: 4}) {
		keepsRules(t, call{"Note of request " + strconv.Itoa(i) + " to a full ledger", func(r api.Req, votes ...api.Vote) ([]api.Msg, int) {
			return noteVotes(l, r, votes), l.Len()
		}, []any{r, votesFor(r, 3, 4, 3)}})
	}
	// Conflicts are told once, so that this is asked of one call alone.
	c := call{args: []any{rivals()[1], votesFor(rivals()[1], 2, 4, 1)}}
	args, before := c.values(), c.values()
	told := noteVotes(l, args[0].Interface().(api.Req), args[1].Interface().([]api.Vote))
	if len(told) != 2 || !sameAll(args, before) || !apart(listsWithRoom(append(args, reflect.ValueOf(told))...)) {
		t.Errorf("a full ledger told %v, or changed or shares what it was handed", told)
	}
}

// evidencesOf are what a fresh ledger tells of a request that is seen behind another one.
func evidencesOf(had, now api.Req, signers ...int) []api.Msg {
	l := ledger.New()
	noteVotes(l, had, votesFor(had, signers...))
	return noteVotes(l, now, votesFor(now, signers...))
}

// tellsStill asks that a ledger tells of some signers what it is to tell.
func tellsStill(t *testing.T, what string, l *ledger.Ledger, had, now api.Req, signers ...int) {
	t.Helper()
	got, want := noteVotes(l, now, votesFor(now, signers...)), evidencesOf(had, now, signers...)
	if len(want) != len(signers) || !same(reflect.ValueOf(got), reflect.ValueOf(want)) {
		t.Errorf("%s: told %v; want %v", what, got, want)
	}
}

func TestLedgersKeepNothing(t *testing.T) { // what was noted may be written over, while the ledger is still there
	for i, had := range rivals() {
		for k, now := range rivals() {
			if i == k {
				continue
			}
			l, c := ledger.New(), call{args: []any{had, votesFor(had, 3, 1, 2)}}
			args := c.values()
			noteVotes(l, args[0].Interface().(api.Req), args[1].Interface().([]api.Vote))
			writeOver(args)
			tellsStill(t, "request "+strconv.Itoa(k)+" behind "+strconv.Itoa(i)+", which was written over", l, had, now, 3, 1, 2)
		}
	}
}

func TestToldEvidencesAreTheCallers(t *testing.T) { // what was told may be written over: what is kept of other signers for the same requests stays
	for i, had := range rivals() {
		for k, now := range rivals() {
			if i == k {
				continue
			}
			what := "request " + strconv.Itoa(k) + " behind " + strconv.Itoa(i)
			l := ledger.New()
			noteVotes(l, had, votesFor(had, 0, 1, 2, 3))
			// Now is kept of signer 5 in the call that tells of 0 and 1.
			told := reflect.ValueOf(noteVotes(l, now, votesFor(now, 0, 5, 1)))
			stays := noteVotes(l, now, votesFor(now, 2))
			if !apart(listsWithRoom(told, reflect.ValueOf(stays))) {
				t.Errorf("%s: evidences share memory", what)
			}
			writeOver([]reflect.Value{told})
			if !same(reflect.ValueOf(stays), reflect.ValueOf(evidencesOf(had, now, 2))) {
				t.Errorf("%s: an evidence became %v", what, stays)
			}
			tellsStill(t, what, l, had, now, 3)
			tellsStill(t, what+", the other way round", l, now, had, 5)
		}
	}
}

func TestToldEvidencesStay(t *testing.T) { // an answer doesn't change with the ledger
	had, now := rivals()[1], rivals()[2]
	l := ledger.New()
	noteVotes(l, had, votesFor(had, 1, 2))
	told := noteVotes(l, now, votesFor(now, 1, 2))
	for range 3 {
		for _, r := range rivals() {
			noteVotes(l, r, votesFor(r, 1, 2, 3, 4))
		}
		l.Cut(votedSlot)
	}
	if want := evidencesOf(had, now, 1, 2); !same(reflect.ValueOf(told), reflect.ValueOf(want)) {
		t.Errorf("%v became %v", want, told)
	}
}

func TestLedgersHangOnThemselves(t *testing.T) { // P2: whatever was done ahead to other ledgers, or refused
	had, now := rivals()[2], rivals()[3]
	for which, start := range ledgers() {
		other, l := start(), ledger.New()
		for _, r := range rivals() {
			noteVotes(other, r, votesFor(r, 1, 2, 3))
			noteVotes(l, had, votesFor(had, 1, 2))
			noteVotes(l, r, someVotes())
		}
		other.Cut(votedSlot)
		if l.Len() != 2 {
			t.Errorf("a ledger beside %s keeps %d votes", which, l.Len())
		}
		tellsStill(t, "a ledger beside "+which, l, had, now, 2, 1)
	}
}
