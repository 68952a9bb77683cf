package stable

import (
	"bytes"
	"fmt"
	"math"
	"testing"

	"catenary/api"
)

// slots are such at which no vote may be counted, and such at which one may be.
func slots() []int {
	return []int{
		math.MinInt, math.MinInt + 4, -1 << 32, -8, -4, -1, 0, 1, 2, 3, 4, 5, 6, 7, 8, 9, 100, 101, 102, 103, mostSlot - 4, mostSlot - 1, mostSlot,
		mostSlot + 1, mostSlot + 4, 2 * mostSlot, math.MaxInt32 - 3, 1 << 32, 1<<32 + 4, math.MaxInt - 3, math.MaxInt,
	}
}

func TestSlots(t *testing.T) { // P19.2: above 0, at most MaxSlot, a multiple of Period
	for _, slot := range slots() {
		l, what := New(4), fmt.Sprint("slot ", slot)
		if slot < 1 || slot > 1000000 || slot%4 != 0 {
			adds(t, what, l, slot, x(), -1, 0, 1, 2, 3)
			tellsNone(t, what, l, slot)
			has(t, what, l)
			continue
		}
		adds(t, what, l, slot, x(), 2, 0, 1, 2, 3)
		tells(t, what, l, slot, x(), 0, 1, 2)
		has(t, what, l, slot)
	}
}

func TestFirstSlots(t *testing.T) { // P19.2: which of the first ones have checkpoints
	l := New(4)
	var want []int
	for slot := -20; slot <= 60; slot++ {
		give(l, slot, x(), 0, 1, 2)
		if slot > 0 && slot%period == 0 {
			want = append(want, slot)
		}
	}
	has(t, "the first slots", l, want...)
}

func TestDigests(t *testing.T) { // P19.2: of 32 bytes, whatever they are
	for size := range 100 {
		for _, filled := range []byte{0, 1, 255} {
			digest := bytes.Repeat([]byte{filled}, size)
			l, what := New(4), fmt.Sprintf("%d bytes %d", size, filled)
			if size == 32 {
				adds(t, what, l, 4, digest, 2, 3, 2, 1, 0)
				tells(t, what, l, 4, digest, 0, 1, 2)
				continue
			}
			adds(t, what, l, 4, digest, -1, 3, 2, 1, 0)
			tellsNone(t, what, l, 4)
			countsStill(t, what, l, 4, 1)
		}
	}
	for _, size := range []int{256 + 32, 65536 + 32, 1 << 20} {
		adds(t, "a long digest", New(4), 4, make([]byte, size), -1, 0, 1, 2, 3)
	}
	adds(t, "no digest", New(4), 4, nil, -1, 0, 1, 2, 3)
}

func TestSigners(t *testing.T) { // P19.2: from 0 to n - 1
	for _, n := range rightNs {
		for _, s := range append(from(-3, 135), math.MinInt, -1<<32, 1<<32, 1<<32+1, math.MaxInt) {
			what := fmt.Sprintf("signer %d of %d", s, n)
			l := New(n)
			others := from(0, quorum(n)-1)
			if s >= 0 && s < len(others) {
				others[s] = quorum(n)
			}
			adds(t, what, l, 4, x(), -1, others...)
			is := s >= 0 && s < n
			adds(t, what, l, 4, x(), []int{-1, 0}[truth(is)], s)
			has(t, what, l, []int{4}[:truth(is)]...)
		}
	}
}

// wrongVotes part from the vote of signer 1 of 4 for x at slot 4 in one thing alone, each by what that is.
func wrongVotes() map[string]api.Vote {
	none, right := api.Ballot{}, check(4, x(), 1).Sig
	sigs := map[string][]byte{
		"no Sig": nil, "an empty Sig": {}, "zeros": make([]byte, 32), "a Sig cut short": right[:31], "a Sig cut in front": right[1:], "a Sig of one byte": right[:1],
		"a longer Sig": append(bytes.Clone(right), 0), "a Sig twice": append(bytes.Clone(right), right...), "the digest as Sig": x(),
		"another's Sig": check(4, x(), 0).Sig, "a Sig for another digest": check(4, y(), 1).Sig, "a Sig for no digest": check(4, nil, 1).Sig, "a Sig for a shorter digest": check(4, x()[1:], 1).Sig, "a client's Sig": check(4, x(), 101).Sig,
	}
	for i := range right {
		turned := bytes.Clone(right)
		turned[i] ^= 1 << (i % 8)
		sigs[fmt.Sprintf("a Sig with byte %d turned", i)] = turned
	}
	for kind := range 27 {
		if kind != checkKind {
			sigs[fmt.Sprintf("a Sig of kind %d", kind)] = sign(kind, none, 4, x(), 1)
		}
	}
	for _, by := range []int{math.MinInt, -1 << 32, -4, -1, 1, 4, 1 << 32} {
		sigs[fmt.Sprintf("a Sig of a slot %d further", by)] = check(4+by, x(), 1).Sig
		sigs[fmt.Sprint("a Sig of view ", by)] = sign(checkKind, api.Ballot{View: by}, 4, x(), 1)
		sigs[fmt.Sprint("a Sig of turn ", by)] = sign(checkKind, api.Ballot{Turn: by}, 4, x(), 1)
	}
	out := map[string]api.Vote{}
	for what, sig := range sigs {
		out[what] = api.Vote{Signer: 1, Sig: sig}
	}
	for _, s := range []int{math.MinInt, -1 << 32, -1, 0, 2, 3, 4, 5, 15, 16, 101, 1<<32 + 1, math.MaxInt} {
		out[fmt.Sprint("signer ", s)] = api.Vote{Signer: s, Sig: right}
	}
	return out
}

func TestWrongVotes(t *testing.T) { // P19.2
	for what, v := range wrongVotes() {
		l := New(4)
		adds(t, what, l, 4, x(), -1, 2, 3)
		for range 2 {
			if l.Add(4, x(), v) {
				t.Errorf("%s made a quorum", what)
			}
			tellsNone(t, what, l, 4)
			has(t, what, l)
		}
		adds(t, what+", then the right one", l, 4, x(), 0, 1)
		tells(t, what, l, 4, x(), 1, 2, 3)
	}
}

func TestWrongVotesBehindAQuorum(t *testing.T) { // P19.2, P19.3: they aren't among its votes, though they would come first
	for what, v := range wrongVotes() {
		l := New(4)
		adds(t, what, l, 4, x(), 2, 0, 2, 3)
		if l.Add(4, x(), v) {
			t.Errorf("%s made a quorum again", what)
		}
		tells(t, what, l, 4, x(), 0, 2, 3)
	}
}

func TestRightVotesForAnother(t *testing.T) { // P19.2: handed in for another slot or digest than they are for
	l := New(4)
	for _, s := range from(0, 4) {
		for _, slot := range []int{4, 8, 12} {
			for _, made := range []struct {
				slot   int
				digest []byte
			}{{4, x()}, {8, y()}, {12, x()}, {4, z()}} {
				for _, digest := range [][]byte{x(), y(), z()} {
					if (slot != made.slot || !bytes.Equal(digest, made.digest)) && l.Add(slot, digest, check(made.slot, made.digest, s)) {
						t.Errorf("a vote of %d for slot %d made a quorum at slot %d", s, made.slot, slot)
					}
				}
			}
		}
	}
	has(t, "votes for another", l)
	for _, slot := range []int{4, 8, 12} {
		countsStill(t, "votes for another", l, slot, 2)
	}
}

func TestSignerTwice(t *testing.T) { // P19.2: for one slot with the same digest, and with another one; for two slots
	l := New(4)
	adds(t, "the same again", l, 4, x(), -1, 0, 0, 0, 1, 1, 0)
	adds(t, "for another digest", l, 4, y(), -1, 0, 1, 0, 1, 2, 3)
	tellsNone(t, "two votes each", l, 4)
	adds(t, "for another slot", l, 8, x(), 2, 0, 1, 3, 2)
	adds(t, "for another slot and digest", l, 12, y(), 2, 0, 1, 3, 2)
	has(t, "the others", l, 8, 12)
	adds(t, "for the first one again", l, 4, x(), -1, 2, 3, 0, 1)
}

func TestTwoDigests(t *testing.T) { // P19.2, P19.3: the votes of each make a quorum of their own, or none
	for _, n := range rightNs {
		q := quorum(n)
		for others := range n + 1 {
			what := fmt.Sprintf("%d of %d for another digest", others, n)
			l := New(n)
			// The votes come by turns.
			for i := range n {
				adds(t, what, l, 4, y(), madeBy(i, q, others), below(i, others)...)
				adds(t, what, l, 4, x(), madeBy(i, q, n-others), below(others+i, n)...)
			}
			switch {
			case others >= q:
				tells(t, what, l, 4, y(), from(0, q)...)
				has(t, what, l, 4)
			case n-others >= q:
				tells(t, what, l, 4, x(), from(others, q)...)
				has(t, what, l, 4)
			default:
				tellsNone(t, what, l, 4)
				has(t, what, l)
			}
		}
	}
}

// below is a number, if it is below end.
func below(number, end int) []int {
	if number < end {
		return []int{number}
	}
	return nil
}

// madeBy is 0, if the vote i of so many makes a quorum q, and -1 otherwise.
func madeBy(i, q, many int) int {
	if i+1 == q && i < many {
		return 0
	}
	return -1
}

func TestThreeDigests(t *testing.T) { // P19.3: the one with a quorum is told, however many others there are
	for _, order := range [][][]byte{{x(), y(), z()}, {y(), z(), x()}, {z(), x(), y()}} {
		l := New(16)
		adds(t, "a vote for one", l, 4, order[0], -1, 0, 15)
		adds(t, "votes for another", l, 4, order[1], -1, 1, 14, 7)
		adds(t, "a quorum", l, 4, order[2], 10, 13, 12, 11, 10, 9, 8, 6, 5, 4, 3, 2)
		tells(t, "three digests", l, 4, order[2], 2, 3, 4, 5, 6, 8, 9, 10, 11, 12, 13)
	}
}
