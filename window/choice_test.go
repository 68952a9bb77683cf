package window

import (
	"fmt"
	"math"
	"testing"

	"catenary/api"
)

// choosing are the calls that weigh ballots.
func choosing() []ask { return []ask{voting(), preparing()} }

// rising are ballots, each above those ahead of it; many differ in the Turn alone.
func rising() []api.Ballot {
	return []api.Ballot{
		{View: math.MinInt, Turn: math.MaxInt}, {View: -1, Turn: 7}, {Turn: math.MinInt}, {Turn: -1}, {}, {Turn: 9},
		{View: 1}, {View: 1, Turn: 1}, {View: 1, Turn: 2}, {View: 1, Turn: 1<<32 + 1}, {View: 2}, {View: 2, Turn: 1},
		{View: 1 << 32}, {View: 1<<32 + 1}, {View: math.MaxInt, Turn: math.MinInt}, {View: math.MaxInt, Turn: math.MaxInt},
	}
}

// chosen asks what comes of a second choice behind a first one, at a slot of which this alone is known.
func chosen(t *testing.T, c ask, had, now api.Ballot, first, second api.Req, right bool) {
	t.Helper()
	what := fmt.Sprintf("%s of %v in %v behind %v in %v", c.name, second, now, first, had)
	w := New(4)
	answers(t, what+": the first", c.do(w, had, 7, first, certs()[0]...), 0)
	e := c.do(w, now, 7, second, certs()[4]...)
	if right {
		answers(t, what, e, 0)
		holds(t, what, w, 4, c.now(7, now, second, certs()[4]...))
		return
	}
	answers(t, what, e, refused)
	holds(t, what, w, 4, c.now(7, had, first, certs()[0]...))
}

func TestSecondChoices(t *testing.T) { // P17.2, P17.4: in a higher ballot any request, in the same the same alone, in a lower none
	for _, c := range choosing() {
		for i, had := range rising() {
			for k, now := range rising() {
				chosen(t, c, had, now, a(), a(), k >= i)
				chosen(t, c, had, now, a(), b(), k > i)
				chosen(t, c, had, now, api.Req{}, api.Req{}, k >= i)
				chosen(t, c, had, now, api.Req{}, b(), k > i)
			}
		}
	}
}

func TestOtherRequests(t *testing.T) { // P17.2, P17.4: those that differ in one field alone are others, the Sig among them
	below, above := api.Ballot{View: 1, Turn: 2}, api.Ballot{View: 1, Turn: 4}
	for _, c := range choosing() {
		for _, other := range others() {
			for _, pair := range [][2]api.Req{{a(), other}, {other, a()}} {
				chosen(t, c, one, one, pair[0], pair[1], false)
				chosen(t, c, one, below, pair[0], pair[1], false)
				chosen(t, c, one, above, pair[0], pair[1], true)
			}
			chosen(t, c, one, one, other, other, true)
			chosen(t, c, one, below, other, other, false)
			chosen(t, c, one, above, other, other, true)
		}
	}
}

func TestNilAndEmptyAreOne(t *testing.T) { // DOC.md's rules: a request with nil lists is the same as one with empty lists
	nils, empties := api.Req{Client: 1, Stamp: 2}, api.Req{Client: 1, Stamp: 2, Op: []byte{}, Sig: []byte{}}
	for _, pair := range [][2]api.Req{{nils, empties}, {empties, nils}} {
		for _, c := range choosing() {
			chosen(t, c, one, one, pair[0], pair[1], true)
		}
		w := New(4)
		answers(t, "Done", w.Done(one, 7, pair[0]), 0)
		answers(t, "Done again", w.Done(two, 7, pair[1]), 0)
	}
}

func TestChoicesOneByOne(t *testing.T) { // P17.2, P17.4: the last choice counts, not the first
	for _, c := range choosing() {
		w := New(0)
		for i, step := range []struct {
			b    api.Ballot
			r    api.Req
			want int
		}{
			{one, a(), 0}, {one, b(), refused}, {one, a(), 0}, {two, b(), 0}, {two, a(), refused}, {one, a(), refused}, {one, b(), refused}, {two, b(), 0},
			{api.Ballot{View: 2, Turn: 2}, a(), 0}, {two, b(), refused}, {api.Ballot{View: 2, Turn: 2}, b(), refused}, {api.Ballot{View: 3}, a(), 0}, {api.Ballot{View: 2, Turn: 9}, a(), refused},
		} {
			answers(t, fmt.Sprintf("%s %d", c.name, i), c.do(w, step.b, 16, step.r), step.want)
		}
		holds(t, c.name, w, 0, c.now(16, api.Ballot{View: 3}, a()))
	}
}

func TestExample(t *testing.T) { // the section Examples
	w := New(0)
	answers(t, "Vote at 3", w.Vote(api.Ballot{View: 1}, 3, a()), 0)
	answers(t, "Vote for another request", w.Vote(api.Ballot{View: 1}, 3, b()), refused)
	answers(t, "Vote in ballot 2 0", w.Vote(api.Ballot{View: 2}, 3, b()), 0)
}

func TestCerts(t *testing.T) { // P17.2: Cert is told as it was handed in, by the last Prep that wasn't refused
	for i, first := range certs() {
		for k, second := range certs() {
			what := fmt.Sprintf("cert %d behind %d", k, i)
			w := New(4)
			w.Prep(one, 7, a(), first...)
			holds(t, what+": the first", w, 4, preparing().now(7, one, a(), first...))
			answers(t, what+", for another request", w.Prep(one, 7, b(), second...), refused)
			answers(t, what+", in a lower ballot", w.Prep(api.Ballot{}, 7, a(), second...), refused)
			holds(t, what+", refused", w, 4, preparing().now(7, one, a(), first...))
			answers(t, what, w.Prep(one, 7, a(), second...), 0)
			holds(t, what, w, 4, preparing().now(7, one, a(), second...))
			answers(t, what+", in a higher ballot", w.Prep(two, 7, b(), first...), 0)
			holds(t, what+", in a higher ballot", w, 4, preparing().now(7, two, b(), first...))
		}
	}
}

// together is what is known of a slot of which the three calls told.
func together() api.Slot {
	s := voting().put(api.Slot{}, one, a())
	s = preparing().put(s, two, b(), certs()[0]...)
	return doing().put(s, api.Ballot{View: 1}, api.Req{}, certs()[4]...)
}

func TestCallsLeaveOneAnother(t *testing.T) { // P17.2: each weighs what it told itself alone, and changes nothing else, at its slot and at others
	for _, order := range [][]int{{0, 1, 2}, {0, 2, 1}, {1, 0, 2}, {1, 2, 0}, {2, 0, 1}, {2, 1, 0}} {
		w := New(4)
		steps := []func(slot int) api.Errno{
			func(slot int) api.Errno { return w.Vote(one, slot, a()) },
			func(slot int) api.Errno { return w.Prep(two, slot, b(), certs()[0]...) },
			func(slot int) api.Errno { return w.Done(api.Ballot{View: 1}, slot, api.Req{}, certs()[4]...) },
		}
		for _, i := range order {
			for _, slot := range []int{9, 8, 10} {
				answers(t, fmt.Sprintf("call %d of %v", i, order), steps[i](slot), 0)
			}
		}
		rows := func(s api.Slot) []row { return []row{{8, together()}, {9, s}, {10, together()}} }
		holds(t, fmt.Sprintf("behind %v", order), w, 4, rows(together())...)

		answers(t, "Vote in a ballot below those of Prep", w.Vote(api.Ballot{View: 1, Turn: 4}, 9, b()), 0)
		s := voting().put(together(), api.Ballot{View: 1, Turn: 4}, b())
		holds(t, "behind it", w, 4, rows(s)...)
		answers(t, "Prep above that of Vote, for the zero request", w.Prep(api.Ballot{View: 9}, 9, api.Req{}), 0)
		s = preparing().put(s, api.Ballot{View: 9}, api.Req{})
		holds(t, "behind it", w, 4, rows(s)...)
		answers(t, "Done again", w.Done(two, 9, api.Req{}, certs()[2]...), 0)
		holds(t, "behind it", w, 4, rows(s)...)
	}
}

func TestRefusalsChangeNothing(t *testing.T) { // P17.2: whatever is known of the slot, and of others
	for _, slot := range []int{5, 20} {
		w := New(4)
		rows := []row{{5, together()}, {20, together()}}
		for _, s := range []int{20, 5} {
			w.Vote(one, s, a())
			w.Prep(two, s, b(), certs()[0]...)
			w.Done(api.Ballot{View: 1}, s, api.Req{}, certs()[4]...)
		}
		for i, e := range []api.Errno{
			w.Vote(one, slot, b()), w.Vote(api.Ballot{View: 1, Turn: 2}, slot, a()), w.Vote(two, 4, a()), w.Vote(two, 21, a()),
			w.Prep(two, slot, a(), certs()[4]...), w.Prep(one, slot, b()), w.Prep(two, 4, b()), w.Prep(two, 21, b()),
			w.Done(api.Ballot{View: 1}, slot, a(), certs()[4]...), w.Done(two, slot, b()), w.Done(one, 4, api.Req{}), w.Done(one, 21, api.Req{}),
		} {
			answers(t, fmt.Sprintf("refusal %d at %d", i, slot), e, refused)
		}
		holds(t, fmt.Sprintf("behind refusals at %d", slot), w, 4, rows...)
	}
}
