package clock

import (
	"math"
	"testing"
)

const (
	// greatestAge is MaxInt, as the document has it.
	greatestAge = 2147483647
	// mostBackoff is MaxBackoff, as the document has it.
	mostBackoff = 8
	// lastPlace is the greatest place or quorum that counts, as the chapter has it.
	lastPlace = 1000
)

// waits are those of the backoffs from 0 to MaxBackoff, written out.
func waits() []int { return []int{4, 8, 16, 32, 64, 128, 256, 512, 1024} }

// below are numbers that count as 0; some would count for more in 32 bits or fewer.
func below() []int {
	return []int{-1, -2, -7, -8, -9, -63, -64, -250, -999, -1000, -1001, -65533, math.MinInt32 - 1, math.MinInt32, -1 << 32, 3 - 1<<32, math.MinInt + 1001, math.MinInt + 2, math.MinInt + 1, math.MinInt}
}

// above are numbers that are greater than any that counts for itself; some would count for less in 32 bits or fewer.
func above() []int {
	return []int{1001, 1002, 1003, 1024, 1999, 2000, 2001, 65536, 65539, math.MaxInt32 - 1, math.MaxInt32, math.MaxInt32 + 1, 1 << 32, 1<<32 + 3, math.MaxInt/2 + 1, math.MaxInt - 1001, math.MaxInt - 1, math.MaxInt}
}

// backoffs are all that count, and many that don't count for themselves.
func backoffs() []int {
	out := []int{0, 1, 2, 3, 4, 5, 6, 7, 8, 9, 10, 16, 31, 32, 61, 62, 63, 64, 65, 256}
	return append(append(out, below()...), above()...)
}

// places are some that count, those at the edges among them, and many that don't count for themselves; they serve as quorums, too.
func places() []int {
	out := []int{0, 1, 2, 3, 4, 5, 6, 7, 10, 11, 12, 15, 16, 255, 256, 499, 500, 501, 997, 998, 999, 1000}
	return append(append(out, below()...), above()...)
}

// counts is the number as which another one counts, if the greatest is most.
func counts(n, most int) int {
	switch {
	case n < 0:
		return 0
	case n > most:
		return most
	}
	return n
}

// wantWait is what Wait is to answer.
func wantWait(backoff int) int { return waits()[counts(backoff, mostBackoff)] }

// wantAccuse is what Accuse is to answer: the places behind this one are counted one by one.
func wantAccuse(backoff, place, quorum int) int {
	out := wantWait(backoff)
	for other := range counts(quorum, lastPlace) {
		if other > counts(place, lastPlace) {
			out += 2
		}
	}
	return out
}

// wantChange is what Change is to answer.
func wantChange(backoff, quorum int) int {
	out := wantWait(backoff) + 4
	for range counts(quorum, lastPlace) {
		out += 2
	}
	return out
}

func asksWait(t *testing.T, backoff, want int) {
	t.Helper()
	if got := Wait(backoff); got != want {
		t.Errorf("Wait(%d): %d; want %d", backoff, got, want)
	}
}

func asksAccuse(t *testing.T, backoff, place, quorum, want int) {
	t.Helper()
	if got := Accuse(backoff, place, quorum); got != want {
		t.Errorf("Accuse(%d, %d, %d): %d; want %d", backoff, place, quorum, got, want)
	}
}

func asksChange(t *testing.T, backoff, quorum, want int) {
	t.Helper()
	if got := Change(backoff, quorum); got != want {
		t.Errorf("Change(%d, %d): %d; want %d", backoff, quorum, got, want)
	}
}

// shows asks for a clock's age and backoff, twice: asking changes nothing.
func shows(t *testing.T, what string, c *Clock, age, backoff int) {
	t.Helper()
	for range 2 {
		if c.Age() != age || c.Backoff() != backoff {
			t.Fatalf("%s: age %d, backoff %d; want %d, %d", what, c.Age(), c.Backoff(), age, backoff)
		}
	}
}

// clockAt is a clock of some age and backoff, made by its calls.
func clockAt(age, backoff int) *Clock {
	c := New()
	for range backoff {
		c.Slow()
	}
	for range age {
		c.Tick()
	}
	return c
}

// aged is a clock of an age that would take long to tick.
func aged(age, backoff int) *Clock {
	c := clockAt(0, backoff)
	c.age = age
	return c
}
