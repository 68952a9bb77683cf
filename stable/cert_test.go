package stable

import (
	"fmt"
	"math/rand"
	"slices"
	"testing"

	"catenary/api"
	"catenary/vote"
)

// rising are the signers in order.
func rising(signers []int) []int {
	out := slices.Clone(signers)
	slices.Sort(out)
	return out
}

func TestExample(t *testing.T) { // P19.2: n = 4: the third vote for one digest answers true
	l := New(4)
	adds(t, "the example", l, 4, x(), 2, 3, 0, 1)
	tells(t, "the example", l, 4, x(), 0, 1, 3)
}

func TestEveryOrder(t *testing.T) { // P19.3: the first quorum by their Signers, whatever the order in which votes came
	var try func(came, left []int)
	try = func(came, left []int) {
		l, what := New(4), fmt.Sprint("votes of ", came)
		adds(t, what, l, 4, x(), 2, came...)
		if len(came) < 3 {
			tellsNone(t, what, l, 4)
		} else {
			tells(t, what, l, 4, x(), rising(came)[:3]...)
		}
		for i := range left {
			try(append(slices.Clone(came), left[i]), slices.Delete(slices.Clone(left), i, i+1))
		}
	}
	try(nil, from(0, 4))
}

func TestOrdersOfMore(t *testing.T) { // P19.3: of greater clusters, in drawn orders
	draw := rand.New(rand.NewSource(19))
	for _, n := range rightNs[1:] {
		for range 60 {
			came := draw.Perm(n)[:draw.Intn(n+1)]
			l, what, q := New(n), fmt.Sprintf("n is %d, votes of %v", n, came), quorum(n)
			adds(t, what, l, 100, z(), q-1, came...)
			if len(came) < q {
				tellsNone(t, what, l, 100)
				continue
			}
			tells(t, what, l, 100, z(), rising(came)[:q]...)
		}
	}
}

func TestCertIsOne(t *testing.T) { // P19.3: what is told is a certificate, as layer 6 has them
	for _, n := range rightNs {
		for first := range n {
			l := New(n)
			for i := range n {
				give(l, 4, y(), (first+i)%n)
				digest, votes := l.Cert(4)
				if got := vote.Cert(api.KCheck, api.Ballot{}, 4, digest, votes, n); got != (i+1 >= quorum(n)) {
					t.Errorf("n is %d, %d votes: a certificate: %v", n, i+1, got)
				}
			}
		}
	}
}

func TestCertOfOtherSlots(t *testing.T) { // P19.3: of each slot its own, and none of one without votes
	l := New(4)
	give(l, 4, x(), 0, 1, 2)
	give(l, 12, y(), 1, 2, 3)
	give(l, 8, z(), 0, 3)
	tells(t, "slot 4", l, 4, x(), 0, 1, 2)
	tells(t, "slot 12", l, 12, y(), 1, 2, 3)
	for _, slot := range slots() {
		if slot != 4 {
			tellsNone(t, "another slot", l, slot)
		}
	}
}

func TestSlotsRise(t *testing.T) { // P19.3: those that have a certificate, in whatever order they came
	draw := rand.New(rand.NewSource(3))
	for range 40 {
		l := New(4)
		var want []int
		for _, i := range draw.Perm(most) {
			slot, signers := period*(1+i)*(1+i), draw.Perm(4)[:1+draw.Intn(4)]
			give(l, slot, x(), signers...)
			if len(signers) >= 3 {
				want = append(want, slot)
			}
			has(t, "in drawn order", l, rising(want)...)
		}
	}
}

func TestNoSlots(t *testing.T) { // P19.3: none of them has a quorum
	l := New(7)
	for slot := 4; slot <= 80; slot += 4 {
		give(l, slot, x(), 0, 1, 2, 3)
		give(l, slot, y(), 4, 5, 6)
		has(t, "a vote short of a quorum each", l)
	}
}

func TestAnswersStay(t *testing.T) { // P19.3: a later vote may change what is told later, and nothing that was told
	l := New(4)
	give(l, 4, x(), 1, 2, 3)
	digest, votes := l.Cert(4)
	told, listed := spell(digest, votes), l.Slots()
	give(l, 4, x(), 0)
	give(l, 8, y(), 0, 1, 2)
	tells(t, "behind the fourth vote", l, 4, x(), 0, 1, 2)
	l.Cut(100)
	if spell(digest, votes) != told || !slices.Equal(listed, []int{4}) {
		t.Errorf("%s became %s; the slots %v", told, spell(digest, votes), listed)
	}
}
