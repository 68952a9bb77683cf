package ledger

import (
	"fmt"
	"math"
	"slices"
	"testing"

	"catenary/api"
)

func TestExample(t *testing.T) { // P15.1: the chapter's
	l := New()
	tells(t, "the first", l, chain.note(l, a(), 2), 1)
	tells(t, "the second", l, chain.note(l, b(), 2), 1, chain.evidence(2, a(), b()))
	tells(t, "the second again", l, chain.note(l, b(), 2), 1)
}

func TestNew(t *testing.T) { // P15.2: no votes
	holds(t, "a new ledger", New(), 0)
}

func TestKinds(t *testing.T) { // P15.1: KChain and KAck, each by itself; of others nothing happens
	for _, kind := range []int{math.MinInt, -3, -2, -1, 1<<8 + 2, 1<<16 + 3, 1<<32 + 2, 1<<32 + 3, math.MaxInt} {
		keepsNoKind(t, kind)
	}
	for kind := range 40 {
		if kind != 2 && kind != 3 {
			keepsNoKind(t, kind)
		}
	}
	for _, p := range []paper{chain, ack} {
		l := New()
		tells(t, "the first", l, p.note(l, b(), 5), 1)
		tells(t, "the second", l, p.note(l, a(), 5), 1, p.evidence(5, a(), b()))
	}
}

// keepsNoKind asks that nothing comes of right votes of a kind, in a new ledger and in one that has others.
func keepsNoKind(t *testing.T, kind int) {
	t.Helper()
	p, what := paper{kind, chain.ballot, chain.slot}, fmt.Sprintf("kind %d", kind)
	l := New()
	tells(t, what, l, p.note(l, a(), 0, 1, 2), 0)
	tells(t, what, l, p.note(l, b(), 0, 1, 2), 0)
	tells(t, what, l, chain.note(l, a(), 0), 1)
	tells(t, what, l, p.note(l, b(), 0), 1)
	tells(t, what, l, p.give(l, b(), chain.vote(b(), 0)), 1)
	tells(t, "behind "+what, l, chain.note(l, b(), 0), 1, chain.evidence(0, a(), b()))
}

func TestKindBallotSlotAndSigner(t *testing.T) { // P15.1: votes that differ in one of them alone are no conflict
	l := New()
	kept := 0
	for i, p := range papers() {
		for s := range signers {
			kept++
			tells(t, fmt.Sprintf("paper %d, signer %d", i, s), l, p.note(l, rising()[(i+s)%len(rising())], s), kept)
		}
	}
	for i, p := range papers() {
		for s := range signers {
			had, other := rising()[(i+s)%len(rising())], rising()[(i+s+1)%len(rising())]
			first, second := firstOf(had, other)
			what := fmt.Sprintf("another request for paper %d, signer %d", i, s)
			tells(t, what, l, p.note(l, had, s), kept)
			tells(t, what, l, p.note(l, other, s), kept, p.evidence(s, first, second))
			tells(t, what, l, p.note(l, other, s), kept)
			tells(t, what, l, p.note(l, had, s), kept)
		}
	}
}

func TestSameRequestAgain(t *testing.T) { // P15.1: nothing happens, however often, ahead of a conflict and behind it
	for i, r := range rising() {
		l, what := New(), fmt.Sprintf("request %d", i)
		for range 3 {
			tells(t, what, l, chain.note(l, r, 4), 1)
		}
		other := rising()[(i+1)%len(rising())]
		first, second := firstOf(r, other)
		tells(t, what, l, chain.note(l, other, 4), 1, chain.evidence(4, first, second))
		for range 3 {
			tells(t, what, l, chain.note(l, r, 4), 1)
			tells(t, what, l, chain.note(l, other, 4), 1)
		}
	}
}

func TestEmptyAndNilAreOne(t *testing.T) { // P15.1: requests whose texts are nil or empty are the same
	none := []api.Req{{}, {Op: []byte{}}, {Sig: []byte{}}, {Op: make([]byte, 0, 9), Sig: make([]byte, 0, 9)}}
	for _, r := range none {
		l := New()
		for _, again := range append(none, r) {
			chain.note(l, r, 1)
			tells(t, "the zero request", l, chain.note(l, again, 1), 1)
		}
		tells(t, "another one", l, chain.note(l, a(), 1), 1, chain.evidence(1, api.Req{}, a()))
	}
}

func TestNoVotes(t *testing.T) { // P15.1: nothing is kept or told
	l := New()
	tells(t, "no votes", l, chain.give(l, a()), 0)
	tells(t, "an empty list", l, chain.give(l, a(), []api.Vote{}...), 0)
	chain.note(l, a(), 1)
	tells(t, "no votes for another request", l, chain.give(l, b()), 1)
	tells(t, "a vote for it", l, chain.note(l, b(), 1), 1, chain.evidence(1, a(), b()))
}

func TestSeveralVotes(t *testing.T) { // P15.1: all are kept, and the evidences come in the order of the votes
	for _, order := range [][]int{{0, 1, 2}, {2, 1, 0}, {15, 3, 7, 0}, {9}, all(), {5, 4, 6, 8, 2, 1, 15, 14, 0, 3, 13, 7, 10, 12, 9, 11}} {
		what, many := fmt.Sprint("signers ", order), len(order)
		for range 20 {
			l := New()
			tells(t, what, l, chain.note(l, b(), order...), many)
			tells(t, what, l, chain.note(l, b(), order...), many)
			tells(t, what, l, chain.note(l, a(), order...), many, chain.evidences(a(), b(), order...)...)
			tells(t, what, l, chain.note(l, a(), order...), many)
			tells(t, what, l, chain.note(l, c(), order...), many)
		}
	}
}

func TestSomeOfSeveralVotesConflict(t *testing.T) { // P15.1: vote by vote
	l := New()
	chain.note(l, a(), 1, 3)
	chain.note(l, b(), 2, 4)
	tells(t, "kept, told and new ones", l, chain.note(l, b(), 5, 4, 3, 2, 1, 0), 6, chain.evidences(a(), b(), 3, 1)...)
	tells(t, "those that are left", l, chain.note(l, a(), 0, 1, 2, 3, 4, 5, 6), 7, chain.evidences(a(), b(), 0, 2, 4, 5)...)
}

func TestSignerTwiceInOneCall(t *testing.T) { // P15.1: its second vote is for the same request, and a conflict is told once
	l := New()
	tells(t, "twice", l, chain.note(l, a(), 3, 3, 3), 1)
	tells(t, "twice among others", l, chain.note(l, a(), 5, 3, 5, 4, 3), 3)
	tells(t, "a conflict twice", l, chain.note(l, b(), 3, 3, 3), 3, chain.evidence(3, a(), b()))
	tells(t, "conflicts twice among others", l, chain.note(l, b(), 6, 5, 3, 5, 6, 4, 4), 4, chain.evidences(a(), b(), 5, 4)...)
}

func TestVotesLieApart(t *testing.T) { // P15.1: the same votes in one call, or one by one
	for _, order := range [][]int{{0, 1, 2, 3}, {3, 1, 0, 2}, {7, 7, 1}} {
		one, other := New(), New()
		chain.note(one, a(), order...)
		for _, s := range order {
			chain.note(other, a(), s)
		}
		var told []api.Msg
		for _, s := range order {
			told = append(told, chain.note(other, b(), s)...)
		}
		tells(t, fmt.Sprint("signers ", order), one, chain.note(one, b(), order...), other.Len(), told...)
	}
}

func TestManyVotes(t *testing.T) { // P15.1: a list of any length
	l := New()
	order := slices.Repeat(all(), 100)
	tells(t, "a long list", l, chain.note(l, a(), order...), signers)
	tells(t, "a long list", l, chain.note(l, b(), order...), signers, chain.evidences(a(), b(), all()...)...)
}

func TestLedgersAreApart(t *testing.T) { // P2: what is done to one ledger doesn't touch another
	one, two := New(), New()
	if one == two {
		t.Fatal("New told one ledger twice")
	}
	chain.note(one, a(), 1, 2)
	holds(t, "the other one", two, 0)
	tells(t, "the other one", two, chain.note(two, b(), 1), 1)
	tells(t, "the first one", one, chain.note(one, b(), 1), 2, chain.evidence(1, a(), b()))
	tells(t, "the other one", two, chain.note(two, a(), 1), 1, chain.evidence(1, a(), b()))
	one.Cut(chain.slot)
	holds(t, "the one that was cut", one, 0)
	tells(t, "the other one", two, chain.note(two, c(), 1, 2), 2)
	holds(t, "a newer one", New(), 0)
}
