package stable

import (
	"fmt"
	"testing"

	"catenary/api"
)

func TestLimits(t *testing.T) {
	if api.KCheck != checkKind || api.Period != period || api.MaxTally != most || api.MaxSlot != mostSlot {
		t.Error("the limits are others")
	}
}

func TestNew(t *testing.T) { // P19.1: without votes, cut up to 0
	for _, n := range append(wrongNs(), rightNs...) {
		l, what := New(n), fmt.Sprint("a new tally of ", n)
		has(t, what, l)
		for _, slot := range slots() {
			tellsNone(t, what, l, slot)
		}
	}
}

func TestWrongN(t *testing.T) { // P19.1, P19.2: no vote is counted, whoever has signed
	for _, n := range wrongNs() {
		l, what := New(n), fmt.Sprint("n is ", n)
		adds(t, what, l, 4, x(), -1, from(0, 16)...)
		adds(t, what, l, mostSlot, x(), -1, from(-2, 40)...)
		tellsNone(t, what, l, 4)
		tellsNone(t, what, l, mostSlot)
		has(t, what, l)
	}
}

func TestQuorums(t *testing.T) { // P19.2, P19.3: of each right n, one vote after the other, from each signer on
	for _, n := range rightNs {
		for first := range n {
			l := New(n)
			var came []int
			for i := range n {
				what := fmt.Sprintf("n is %d, %d votes from %d on", n, i+1, first)
				s := (first + i) % n
				adds(t, what, l, 8, y(), []int{-1, 0}[truth(i+1 == quorum(n))], s)
				came = append(came, s)
				if i+1 < quorum(n) {
					tellsNone(t, what, l, 8)
					has(t, what, l)
					continue
				}
				tells(t, what, l, 8, y(), rising(came)[:quorum(n)]...)
				has(t, what, l, 8)
			}
			adds(t, "all once more", l, 8, y(), -1, from(0, n)...)
		}
	}
}

// truth is 1 of what is true.
func truth(is bool) int {
	if is {
		return 1
	}
	return 0
}

func TestTalliesAreApart(t *testing.T) { // P2: what one counts, the other doesn't
	one, other := New(4), New(4)
	adds(t, "one", one, 4, x(), -1, 0, 1)
	adds(t, "the other", other, 4, x(), -1, 2, 3)
	other.Cut(400)
	adds(t, "one, behind the other", one, 4, x(), 0, 3)
	tells(t, "one", one, 4, x(), 0, 1, 3)
	has(t, "the other", other)
}
