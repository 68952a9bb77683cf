package stable

import (
	"fmt"
	"math"
	"testing"
)

// cuts are slots of all sizes; some would be others in 32 bits.
func cuts() []int {
	return []int{math.MinInt, -1 << 32, math.MinInt32, -4, -1, 0, 1, 3, 4, 5, 7, 8, 11, 12, 13, 99, 100, mostSlot - 5, mostSlot - 4, mostSlot - 1, mostSlot, mostSlot + 1, math.MaxInt32, 1 << 32, 1<<32 + 4, math.MaxInt}
}

// votedSlots are those of a tally that voted makes.
var votedSlots = []int{4, 8, 12, 100, mostSlot - 4, mostSlot}

// voted is a tally with a quorum's votes at some slots, of more at the last one, and of fewer at slot 16.
func voted() *Tally {
	l := New(4)
	for _, slot := range votedSlots {
		give(l, slot, x(), 3, 1, 2)
	}
	give(l, mostSlot, x(), 0)
	give(l, 16, y(), 3, 2)
	return l
}

// isCut asks for all that a tally of voted tells behind a cut, votes that come then included.
func isCut(t *testing.T, what string, l *Tally, cut int) {
	t.Helper()
	var left []int
	for _, slot := range votedSlots {
		if slot > cut {
			left = append(left, slot)
		}
	}
	has(t, what, l, left...)
	for _, slot := range votedSlots {
		switch {
		case slot <= cut:
			tellsNone(t, what, l, slot)
			adds(t, what+": votes that come later", l, slot, x(), -1, 0, 1, 2, 3)
			tellsNone(t, what+": votes that came later", l, slot)
		case slot == mostSlot:
			tells(t, what, l, slot, x(), 0, 1, 2)
			adds(t, what+": once more", l, slot, x(), -1, 0, 1, 2, 3)
		default:
			tells(t, what, l, slot, x(), 1, 2, 3)
			adds(t, what+": once more", l, slot, x(), -1, 3, 1, 2)
		}
	}
	if 16 > cut {
		adds(t, what+": one that makes a quorum", l, 16, y(), 0, 0)
		left = append(left, 16)
	} else {
		adds(t, what+": a quorum that comes later", l, 16, y(), -1, 0, 1, 2, 3)
	}
	adds(t, what+": a new slot", l, 20, y(), []int{-1, 2}[truth(cut < 20)], 0, 1, 2)
	if cut < 20 {
		left = append(left, 20)
	}
	has(t, what, l, rising(left)...)
}

func TestCut(t *testing.T) { // P19.1: votes up to it go, and aren't counted any more; votes above it stay
	for _, cut := range cuts() {
		for times := 1; times <= 2; times++ {
			l := voted()
			for range times {
				l.Cut(cut)
			}
			isCut(t, fmt.Sprintf("Cut(%d)", cut), l, cut)
		}
	}
}

func TestCutsFollow(t *testing.T) { // P19.1: the greatest of them holds, in whatever order they come
	for _, first := range cuts() {
		for _, second := range cuts() {
			l := voted()
			l.Cut(first)
			l.Cut(second)
			isCut(t, fmt.Sprintf("Cut(%d) and Cut(%d)", first, second), l, max(first, second))
		}
	}
}

func TestCutOfNoVotes(t *testing.T) { // P19.1: it holds for votes that come later, at each slot
	for cut := -5; cut <= 30; cut++ {
		l := New(4)
		l.Cut(cut)
		var want []int
		for slot := 0; slot <= 40; slot++ {
			give(l, slot, x(), 0, 1, 2)
			if slot%4 == 0 && slot > 0 && slot > cut {
				want = append(want, slot)
			}
		}
		has(t, fmt.Sprintf("behind Cut(%d)", cut), l, want...)
	}
}

func TestCutForgetsSigners(t *testing.T) { // P19.1: of higher slots no vote is forgotten
	l := New(4)
	give(l, 4, x(), 0, 1)
	give(l, 8, x(), 0, 1)
	l.Cut(4)
	adds(t, "counted at slot 8", l, 8, y(), -1, 0, 1, 2)
	adds(t, "counted at slot 8", l, 8, x(), 0, 3)
	tells(t, "slot 8", l, 8, x(), 0, 1, 3)
}
