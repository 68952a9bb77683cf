package clock

import (
	"math"
	"math/rand"
	"testing"

	"catenary/api"
)

func TestExamples(t *testing.T) { // P14.1: the chapter's
	asksAccuse(t, 0, 0, 3, 8)
	asksAccuse(t, 0, 1, 3, 6)
	asksChange(t, 0, 3, 14)
}

func TestLimit(t *testing.T) { // MaxBackoff, and MaxInt, up to which an age goes
	if api.MaxBackoff != mostBackoff || api.MaxInt != greatestAge {
		t.Errorf("MaxBackoff %d, MaxInt %d", api.MaxBackoff, api.MaxInt)
	}
}

func TestWait(t *testing.T) { // P14.1: each backoff from 0 to MaxBackoff doubles it
	for backoff, want := range waits() {
		asksWait(t, backoff, want)
	}
}

func TestWaitOutside(t *testing.T) { // P14.1: a backoff below 0 counts as 0, one above MaxBackoff as MaxBackoff
	for _, backoff := range below() {
		asksWait(t, backoff, 4)
	}
	for _, backoff := range append(above(), 9, 10, 11, 16, 31, 32, 60, 61, 62, 63, 64, 65, 127, 128, 256, 264) {
		asksWait(t, backoff, 1024)
	}
	for n := range 3000 {
		asksWait(t, -n, 4)
		asksWait(t, 8+n, 1024)
		asksWait(t, math.MinInt+n, 4)
		asksWait(t, math.MaxInt-n, 1024)
	}
}

func TestAccuse(t *testing.T) { // P14.1: written out
	for _, c := range [][4]int{
		// Of a quorum of 3 the last place waits shortest, and so do all behind it.
		{0, 0, 3, 8}, {0, 1, 3, 6}, {0, 2, 3, 4}, {0, 3, 3, 4}, {0, 4, 3, 4}, {0, 1000, 3, 4},
		{1, 0, 5, 16}, {1, 3, 5, 10}, {1, 4, 5, 8}, {1, 5, 5, 8}, {2, 0, 11, 36}, {8, 0, 11, 1044}, {8, 10, 11, 1024},
		// A quorum of 1 or of none has no place behind another.
		{0, 0, 1, 4}, {0, 1, 1, 4}, {0, 0, 0, 4}, {0, 1, 0, 4}, {0, 0, 2, 6}, {0, 1, 2, 4},
		// Below 0.
		{-1, -5, 3, 8}, {0, -1, 3, 8}, {0, math.MinInt, 3, 8}, {0, 0, -1, 4}, {0, 0, math.MinInt, 4}, {0, -1, -1, 4}, {0, 1, math.MinInt, 4}, {0, math.MinInt, math.MinInt, 4}, {0, -9, 1, 4}, {0, -9, 2, 6},
		// At 1000 and above.
		{0, 0, 1000, 2002}, {0, 0, 1001, 2002}, {0, 0, math.MaxInt, 2002}, {0, 998, 1000, 6}, {0, 999, 1000, 4}, {0, 1000, 1000, 4}, {0, 1001, 1000, 4}, {0, 998, 1001, 6}, {0, 998, math.MaxInt, 6}, {0, 999, math.MaxInt, 4},
		{0, 1000, 1002, 4}, {0, 1000, math.MaxInt, 4}, {0, 1001, math.MaxInt, 4}, {0, math.MaxInt - 2, math.MaxInt, 4}, {0, math.MaxInt, math.MaxInt, 4}, {0, math.MaxInt, 3, 4}, {0, 0, 999, 2000}, {0, 997, 999, 6}, {0, 998, 999, 4},
		// Differences of such numbers would overflow.
		{0, math.MinInt, math.MaxInt, 2002}, {0, math.MaxInt, math.MinInt, 4}, {math.MinInt, math.MinInt, math.MaxInt, 2002}, {math.MaxInt, math.MinInt, math.MaxInt, 3022}, {math.MaxInt, math.MaxInt, math.MinInt, 1024}, {math.MinInt, math.MinInt, math.MinInt, 4},
	} {
		asksAccuse(t, c[0], c[1], c[2], c[3])
	}
}

func TestChange(t *testing.T) { // P14.1: written out
	for _, c := range [][3]int{
		{0, 3, 14}, {0, 5, 18}, {0, 7, 22}, {0, 9, 26}, {0, 11, 30}, {1, 3, 18}, {2, 11, 42}, {7, 3, 522}, {8, 3, 1034}, {9, 3, 1034},
		{0, 0, 8}, {0, 1, 10}, {0, -1, 8}, {-1, -1, 8}, {0, math.MinInt, 8}, {math.MinInt, math.MinInt, 8}, {math.MinInt, 3, 14},
		{0, 999, 2006}, {0, 1000, 2008}, {0, 1001, 2008}, {0, math.MaxInt, 2008}, {8, math.MaxInt, 3028}, {math.MaxInt, math.MaxInt, 3028}, {math.MaxInt, 0, 1028}, {math.MaxInt, math.MinInt, 1028}, {math.MinInt, math.MaxInt, 2008},
	} {
		asksChange(t, c[0], c[1], c[2])
	}
}

func TestAccuseAndChangeCount(t *testing.T) { // P14.1: places and quorums below 0, from 0 to 1000, and above, with all backoffs
	for _, backoff := range backoffs() {
		for _, quorum := range places() {
			asksChange(t, backoff, quorum, wantChange(backoff, quorum))
			for _, place := range places() {
				asksAccuse(t, backoff, place, quorum, wantAccuse(backoff, place, quorum))
			}
		}
	}
}

func TestAroundTheLastOfTheQuorum(t *testing.T) { // P14.1: places at it, before it and behind it, of every quorum
	for quorum := -3; quorum <= lastPlace+3; quorum++ {
		last := counts(quorum, lastPlace) - 1
		for _, place := range []int{last - 2, last - 1, last, last + 1, last + 2} {
			asksAccuse(t, 0, place, quorum, wantAccuse(0, place, quorum))
		}
		if last > 0 {
			asksAccuse(t, 3, last, quorum, 32)
			asksAccuse(t, 3, last-1, quorum, 34)
			asksAccuse(t, 3, last+1, quorum, 32)
		}
		asksChange(t, 3, quorum, wantChange(3, quorum))
	}
}

func TestDrawnWaits(t *testing.T) { // P14.1: of any numbers, of every size
	draw := rand.New(rand.NewSource(14))
	drawn := func() int { return int(draw.Uint64()) >> draw.Intn(64) }
	for range 20000 {
		backoff, place, quorum := drawn(), drawn(), drawn()
		asksWait(t, backoff, wantWait(backoff))
		asksAccuse(t, backoff, place, quorum, wantAccuse(backoff, place, quorum))
		asksChange(t, backoff, quorum, wantChange(backoff, quorum))
	}
}

func TestWaitsHangOnArguments(t *testing.T) { // P2: whatever was asked ahead, and whatever clocks there are
	c := New()
	for _, n := range append(below(), above()...) {
		Wait(n)
		Accuse(n, n, n)
		Change(n, n)
		c.Slow()
		c.Tick()
		TestExamples(t)
		asksWait(t, 0, 4)
	}
	shows(t, "a clock behind all this", c, 1, mostBackoff)
}
