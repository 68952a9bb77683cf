package window

import (
	"fmt"
	"testing"

	"catenary/api"
)

func TestDone(t *testing.T) { // P17.2: Done, Ballot and Votes are told as they were handed in
	for i, votes := range certs() {
		for _, ballot := range rising() {
			for _, r := range []api.Req{{}, a()} {
				w, what := New(4), fmt.Sprintf("Done of %v in %v with votes %d", r, ballot, i)
				answers(t, what, w.Done(ballot, 20, r, votes...), 0)
				holds(t, what, w, 4, doing().now(20, ballot, r, votes...))
			}
		}
	}
}

func TestDoneAgain(t *testing.T) { // P17.2: with the same request nothing happens, whatever the ballot and the votes are
	for _, r := range append(others(), a()) {
		w := New(4)
		w.Done(one, 7, r, certs()[0]...)
		was := doing().now(7, one, r, certs()[0]...)
		for _, ballot := range append(rising(), one) {
			for i, votes := range certs() {
				answers(t, fmt.Sprintf("in %v with votes %d", ballot, i), w.Done(ballot, 7, r, votes...), 0)
			}
			holds(t, fmt.Sprintf("Done of %v again in %v", r, ballot), w, 4, was)
		}
	}
}

func TestDoneWithoutVotesAgain(t *testing.T) { // P17.2: votes that come later aren't told, even if there were none
	w := New(4)
	w.Done(one, 7, a())
	answers(t, "with votes", w.Done(two, 7, a(), certs()[0]...), 0)
	holds(t, "with votes", w, 4, doing().now(7, one, a()))
}

func TestDoneOfAnother(t *testing.T) { // P17.2: ErrWindow in every ballot, the higher ones too
	for _, other := range others() {
		for _, pair := range [][2]api.Req{{a(), other}, {other, a()}} {
			w := New(4)
			w.Done(one, 7, pair[0], certs()[0]...)
			for _, ballot := range append(rising(), one) {
				answers(t, fmt.Sprintf("Done of %v in %v behind %v", pair[1], ballot, pair[0]), w.Done(ballot, 7, pair[1], certs()[0]...), refused)
			}
			holds(t, fmt.Sprintf("Done of %v behind %v", pair[1], pair[0]), w, 4, doing().now(7, one, pair[0], certs()[0]...))
		}
	}
}
