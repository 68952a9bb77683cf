package ledger

import (
	"fmt"
	"math"
	"testing"

	"catenary/api"
)

// cuts are slots of all sizes, rising; some would be others in 32 bits.
func cuts() []int {
	return []int{math.MinInt, math.MinInt + 1, -1 << 32, math.MinInt32, -2, -1, 0, 1, 2, 3, 4, 7, 8, api.MaxSlot, math.MaxInt32, 1 << 32, 1<<32 + 3, math.MaxInt - 1, math.MaxInt}
}

// everywhere is a ledger with votes for b: of two kinds, in two ballots, of two signers, at each of these slots.
func everywhere(slots []int) *Ledger {
	l := New()
	for _, slot := range slots {
		for _, p := range spread(slot) {
			p.note(l, b(), 0, 15)
		}
	}
	return l
}

// spread are the papers of everywhere at a slot.
func spread(slot int) []paper {
	return []paper{{2, api.Ballot{}, slot}, {2, api.Ballot{View: 9}, slot}, {3, api.Ballot{}, slot}, {3, api.Ballot{View: 9}, slot}}
}

// perSlot is how many votes everywhere has at each slot.
const perSlot = 8

func TestCut(t *testing.T) { // P15.2: what was kept of slots up to this one goes, all else stays
	for _, cut := range cuts() {
		l := everywhere(cuts())
		holds(t, "ahead of it", l, perSlot*len(cuts()))
		kept := 0
		for _, slot := range cuts() {
			if slot > cut {
				kept += perSlot
			}
		}
		for range 2 {
			l.Cut(cut)
			holds(t, fmt.Sprintf("behind Cut(%d)", cut), l, kept)
		}
		for _, slot := range cuts() {
			for _, p := range spread(slot) {
				what := fmt.Sprintf("paper %v behind Cut(%d)", p, cut)
				if slot > cut {
					tells(t, what, l, p.note(l, a(), 0, 15), kept, p.evidences(a(), b(), 0, 15)...)
					continue
				}
				kept += 2
				tells(t, what, l, p.note(l, a(), 0, 15), kept)
			}
		}
	}
}

func TestCutOfNothing(t *testing.T) { // P15.2: a ledger without votes, and slots below those that are kept
	for _, cut := range cuts() {
		l := New()
		l.Cut(cut)
		holds(t, "an empty ledger", l, 0)
		tells(t, "a vote behind it", l, chain.note(l, a(), 1), 1)
	}
	l := New()
	chain.note(l, a(), 1)
	for _, cut := range []int{chain.slot - 1, 0, -1, -chain.slot, math.MinInt} {
		l.Cut(cut)
		holds(t, "slots below", l, 1)
	}
	tells(t, "a conflict behind them", l, chain.note(l, b(), 1), 1, chain.evidence(1, a(), b()))
}

func TestCutsOneByOne(t *testing.T) { // P15.2
	l := everywhere([]int{1, 2, 3, 4, 5, 6})
	for cut := range 8 {
		l.Cut(cut)
		holds(t, fmt.Sprintf("behind Cut(%d)", cut), l, perSlot*max(0, 6-cut))
	}
}

func TestLowerCutsChangeNothing(t *testing.T) { // P15.2: behind a higher one
	l := everywhere([]int{1, 2, 3, 4, 5, 6})
	l.Cut(4)
	for _, cut := range []int{4, 3, 0, -7, math.MinInt} {
		l.Cut(cut)
		holds(t, fmt.Sprintf("behind Cut(%d)", cut), l, 2*perSlot)
	}
}

func TestVotesOfSlotsThatWereCut(t *testing.T) { // P15.2: what comes later is kept as any other
	for _, cut := range []int{chain.slot, chain.slot + 1, math.MaxInt} {
		l := New()
		l.Cut(cut)
		tells(t, "a vote behind the cut", l, chain.note(l, a(), 1), 1)
		tells(t, "a conflict behind the cut", l, chain.note(l, b(), 1), 1, chain.evidence(1, a(), b()))
		l.Cut(cut)
		holds(t, "behind the next cut", l, 0)
	}
}

func TestToldAnew(t *testing.T) { // P15.2: a conflict that was told is told anew behind a cut of its slot, if it is met again
	for _, again := range [][2]api.Req{{a(), b()}, {b(), a()}} {
		for _, cut := range []int{chain.slot, chain.slot + 1, math.MaxInt} {
			l := New()
			chain.note(l, a(), 4)
			chain.note(l, b(), 4)
			for range 3 {
				l.Cut(cut)
				holds(t, "behind the cut", l, 0)
				tells(t, "one of the two", l, chain.note(l, again[0], 4), 1)
				tells(t, "the same", l, chain.note(l, again[0], 4), 1)
				tells(t, "the other one", l, chain.note(l, again[1], 4), 1, chain.evidence(4, a(), b()))
				tells(t, "the other one again", l, chain.note(l, again[1], 4), 1)
			}
		}
	}
}

func TestNotToldAnew(t *testing.T) { // P15.1, P15.2: behind a cut of lower slots alone
	l := New()
	chain.note(l, a(), 4)
	chain.note(l, b(), 4)
	for _, cut := range []int{math.MinInt, 0, chain.slot - 1} {
		l.Cut(cut)
		tells(t, "the first", l, chain.note(l, a(), 4), 1)
		tells(t, "the second", l, chain.note(l, b(), 4), 1)
		tells(t, "a third", l, chain.note(l, c(), 4), 1)
	}
}

func TestToldAnewOfTheSlotAlone(t *testing.T) { // P15.2: other slots' conflicts, told ahead of the cut, stay told
	l := New()
	for slot := 1; slot <= 4; slot++ {
		chain.at(slot).note(l, a(), 0, 1)
		chain.at(slot).note(l, b(), 1)
	}
	l.Cut(2)
	holds(t, "behind the cut", l, 4)
	for slot := 1; slot <= 4; slot++ {
		p := chain.at(slot)
		p.note(l, a(), 0, 1)
		want := p.evidences(a(), b(), 0, 1)
		if slot > 2 {
			want = want[:1]
		}
		tells(t, fmt.Sprintf("slot %d", slot), l, p.note(l, b(), 0, 1), 4+2*min(2, slot), want...)
	}
}

func TestLen(t *testing.T) { // P15.2: behind each call
	l := New()
	for i, do := range []struct {
		call func()
		then int
	}{
		{func() { chain.note(l, a()) }, 0},
		{func() { chain.note(l, a(), 1) }, 1},
		{func() { chain.note(l, a(), 1) }, 1},
		{func() { chain.note(l, b(), 1) }, 1},
		{func() { chain.note(l, c(), 1) }, 1},
		{func() { ack.note(l, c(), 1) }, 2},
		{func() { ack.note(l, c(), 1, 2, 2, 3) }, 4},
		{func() { ack.give(l, c(), chain.vote(c(), 7)) }, 4},
		{func() { paper{4, ack.ballot, ack.slot}.note(l, a(), 9) }, 4},
		{func() { ack.at(4).note(l, a(), 9) }, 5},
		{func() { l.Cut(2) }, 5},
		{func() { l.Cut(3) }, 1},
		{func() { l.Cut(3) }, 1},
		{func() { chain.note(l, b(), 1) }, 2},
		{func() { l.Cut(4) }, 0},
	} {
		do.call()
		holds(t, fmt.Sprintf("behind call %d", i), l, do.then)
	}
}
