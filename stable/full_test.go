package stable

import (
	"fmt"
	"testing"

	"catenary/api"
)

// full is a tally with one vote, of replica 2, at each of so many slots from 4 on.
func full(many int) *Tally {
	l := New(4)
	for i := range many {
		give(l, period*(i+1), x(), 2)
	}
	return l
}

func TestRoom(t *testing.T) { // P19.2: votes for fewer than MaxTally others
	for _, many := range []int{0, 1, most - 2, most - 1} {
		l := full(many)
		adds(t, fmt.Sprint("a slot behind ", many), l, 1000, x(), 2, 0, 1, 2)
		has(t, fmt.Sprint("a slot behind ", many), l, 1000)
	}
}

func TestNoRoom(t *testing.T) { // P19.2: for MaxTally slots and one more
	l := full(most)
	for _, slot := range []int{1000, period * (most + 1), mostSlot} {
		adds(t, "one slot more", l, slot, x(), -1, 0, 1, 2, 3)
		tellsNone(t, "one slot more", l, slot)
	}
	has(t, "one slot more", l)
	for i := range most {
		slot := period * (i + 1)
		adds(t, "a slot that has votes", l, slot, x(), 1, 1, 0, 3, 2)
		tells(t, "a slot that has votes", l, slot, x(), 0, 1, 2)
	}
	if got := len(l.Slots()); got != 64 {
		t.Errorf("%d slots", got)
	}
	adds(t, "one slot more", l, 1000, x(), -1, 0, 1, 2, 3)
}

func TestNoRoomBelow(t *testing.T) { // P19.2: a slot below all others has no more right to it
	l := New(4)
	for i := range most {
		give(l, period*(i+2), x(), 2)
	}
	adds(t, "the first slot", l, period, x(), -1, 0, 1, 2, 3)
	has(t, "the first slot", l)
}

func TestRoomBehindACut(t *testing.T) { // P19.1, P19.2: for as many as went, and no more
	for went := range 5 {
		l := full(most)
		l.Cut(period * went)
		for i := range 6 {
			slot := 1000 + period*i
			adds(t, fmt.Sprintf("slot %d more behind %d that went", i, went), l, slot, x(), []int{-1, 2}[truth(i < went)], 0, 1, 2, 3)
		}
		if got := len(l.Slots()); got != went {
			t.Errorf("%d slots behind %d that went", got, went)
		}
	}
}

func TestWrongVotesTakeNoRoom(t *testing.T) { // P19.2: nor do those of a signer that was counted
	l := full(most - 1)
	for i := range 100 {
		slot := 2000 + period*i
		l.Add(slot, x(), api.Vote{Signer: 1})
		l.Add(slot, x(), check(slot, y(), 1))
		l.Add(slot, x()[1:], check(slot, x()[1:], 1))
		l.Add(slot, x(), check(slot, x(), 4))
		l.Add(slot+1, x(), check(slot+1, x(), 1))
		l.Add(-slot, x(), check(-slot, x(), 1))
		l.Add(4, y(), check(4, y(), 2))
		tellsNone(t, "a slot without votes", l, slot)
	}
	adds(t, "the last slot", l, 1000, x(), 2, 0, 1, 2)
	adds(t, "one more", l, 1004, x(), -1, 0, 1, 2)
}

func TestTwoDigestsTakeOneRoom(t *testing.T) { // P19.2: slots are counted, not digests or votes
	l := New(16)
	for i := range most {
		slot := period * (i + 1)
		give(l, slot, x(), 0, 1, 2)
		give(l, slot, y(), 3, 4, 5)
		give(l, slot, z(), 6, 7, 8)
	}
	adds(t, "one more", l, 1000, x(), -1, from(0, 16)...)
	adds(t, "the last of them", l, period*most, x(), 7, from(8, 8)[1:]...)
	adds(t, "the last of them", l, period*most, x(), -1, from(0, 9)...)
}
