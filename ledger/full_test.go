package ledger

import (
	"fmt"
	"testing"

	"catenary/api"
)

// slots is how many of them a full ledger has, if all signers voted at each.
const slots = mostSeen / signers

// filled is a ledger that keeps so many votes for b: of all signers at the slots from 1 on.
func filled(t *testing.T, many int) *Ledger {
	t.Helper()
	l := New()
	for i := 0; i < many; i += signers {
		chain.at(1+i/signers).note(l, b(), all()[:min(signers, many-i)]...)
	}
	holds(t, "a ledger that is filled", l, many)
	return l
}

func TestLimit(t *testing.T) {
	if api.MaxSeen != mostSeen {
		t.Errorf("MaxSeen is %d", api.MaxSeen)
	}
}

func TestUpToMaxSeen(t *testing.T) { // P15.1: one less, as many, and one more
	l := filled(t, mostSeen-1)
	last, more := chain.at(slots), chain.at(slots+1)
	tells(t, "the last one", l, last.note(l, b(), 15), mostSeen)
	tells(t, "one more", l, more.note(l, b(), 0), mostSeen)
	tells(t, "one more, for another request: it wasn't kept", l, more.note(l, a(), 0), mostSeen)
	tells(t, "one of another kind", l, ack.at(1).note(l, a(), 0), mostSeen)
	tells(t, "the last one has a conflict", l, last.note(l, a(), 15), mostSeen, last.evidence(15, a(), b()))
}

func TestConflictsOfAFullLedger(t *testing.T) { // P15.1: those with what is kept are told, once each
	l := filled(t, mostSeen)
	for slot := 1; slot <= slots; slot++ {
		p, what := chain.at(slot), fmt.Sprintf("slot %d", slot)
		tells(t, what+": the same again", l, p.note(l, b(), all()...), mostSeen)
		tells(t, what+": another one", l, p.note(l, a(), all()...), mostSeen, p.evidences(a(), b(), all()...)...)
		tells(t, what+": a third one", l, p.note(l, c(), all()...), mostSeen)
	}
}

func TestNotKeptIsNoConflict(t *testing.T) { // P15.1: what came when the ledger was full is as if it had never come
	l, past := filled(t, mostSeen), chain.at(slots+7)
	for _, r := range []api.Req{a(), b(), c(), a()} {
		tells(t, "a full ledger", l, past.note(l, r, all()...), mostSeen)
	}
	l.Cut(1)
	holds(t, "behind a cut", l, mostSeen-signers)
	tells(t, "the first that is kept", l, past.note(l, c(), 4), mostSeen-signers+1)
	tells(t, "a conflict with that", l, past.note(l, a(), 4), mostSeen-signers+1, past.evidence(4, a(), c()))
}

func TestFullWithinOneCall(t *testing.T) { // P15.1: the first of its votes are kept, up to the limit
	for room := range signers + 1 {
		l, past := filled(t, mostSeen-room), chain.at(slots+2)
		order := []int{9, 3, 15, 0, 1, 2, 4, 5, 6, 7, 8, 14, 13, 12, 11, 10}
		what := fmt.Sprintf("with room for %d", room)
		tells(t, what, l, past.note(l, b(), order...), mostSeen)
		tells(t, what, l, past.note(l, a(), all()...), mostSeen, past.evidences(a(), b(), sorted(order[:room])...)...)
	}
}

// sorted are the signers in rising order.
func sorted(order []int) []int {
	var out []int
	for s := range signers {
		for _, other := range order {
			if s == other {
				out = append(out, s)
			}
		}
	}
	return out
}

func TestSameAndWrongTakeNoRoom(t *testing.T) { // P15.1: nor do conflicts
	l, past := filled(t, mostSeen-1), chain.at(slots+1)
	tells(t, "the same again", l, chain.at(1).note(l, b(), all()...), mostSeen-1)
	tells(t, "wrong votes", l, past.give(l, b(), chain.at(1).votes(b(), all()...)...), mostSeen-1)
	tells(t, "conflicts", l, chain.at(2).note(l, a(), all()...), mostSeen-1, chain.at(2).evidences(a(), b(), all()...)...)
	tells(t, "one more", l, past.note(l, b(), 3, 3, 3), mostSeen)
	tells(t, "one more than that", l, past.note(l, b(), 4), mostSeen)
}

func TestRoomBehindACut(t *testing.T) { // P15.1, P15.2: for as many as went, and no more
	l := filled(t, mostSeen)
	for cut := 1; cut <= 3; cut++ {
		l.Cut(cut)
		holds(t, "behind a cut", l, mostSeen-signers)
		p := chain.at(slots + cut)
		tells(t, "as many as went", l, p.note(l, c(), all()...), mostSeen)
		tells(t, "one more", l, ack.at(slots+9).note(l, c(), 0), mostSeen)
		tells(t, "conflicts with the new ones", l, p.note(l, b(), 2, 1), mostSeen, p.evidences(b(), c(), 2, 1)...)
	}
	l.Cut(slots + 3)
	holds(t, "behind all", l, 0)
}

func TestFullLedgersAreApart(t *testing.T) { // P2: MaxSeen is each ledger's own
	full, other := filled(t, mostSeen), New()
	tells(t, "another ledger", other, chain.note(other, a(), all()...), signers)
	tells(t, "the full one", full, chain.at(slots+1).note(full, a(), 1), mostSeen)
}
