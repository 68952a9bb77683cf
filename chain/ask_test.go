package chain

import (
	"fmt"
	"testing"

	"catenary/api"
)

// proposes is what a head of an order tells that votes for a request.
func proposes(b api.Ballot, order []int, slot int, r api.Req) []api.Act {
	return []api.Act{kept(voted(b, slot, r)), again(b, order, slot, r)}
}

// again is what it tells that has voted for it.
func again(b api.Ballot, order []int, slot int, r api.Req) api.Act {
	return sent(order[1], down(b, slot, r, order[0]))
}

// waits is what a request changes that nobody proposes.
func waits(r api.Req) func(s *api.Core) { return func(s *api.Core) { wait(s, r) } }

// isProposed is what a request changes that is proposed.
func isProposed(b api.Ballot, slot int, r api.Req) func(s *api.Core) {
	return func(s *api.Core) {
		wait(s, r)
		atVote(s, slot, b, r)
	}
}

func TestExample(t *testing.T) { // the chapter's: a record KVote and a KChain for replica 1, at slot 1
	asks(t, "the example", core(t, 4, 0), put(1, 1), isProposed(b00, 1, put(1, 1)), kept(voted(b00, 1, put(1, 1))), sent(1, down(b00, 1, put(1, 1), 0)))
}

func TestAsk(t *testing.T) { // P21.4: a head proposes one request at one slot behind the other, all others wait
	for _, n := range rightNs {
		for _, b := range []api.Ballot{b00, b10, {View: 3, Turn: 4}, {View: mostView, Turn: mostView}} {
			order := around(b.View%n, n)
			for me := range n {
				c, what := core(t, n, me, enter(b, 0, order)), fmt.Sprintf("replica %d of %d in %v", me, n, b)
				for i, r := range []api.Req{put(2, 1), get(1, greatest), put(4, 7), put(3, 1), put(2, 2)} {
					if me == order[0] {
						asks(t, what, c, r, isProposed(b, i+1, r), proposes(b, order, i+1, r)...)
					} else {
						asks(t, what, c, r, waits(r))
					}
				}
			}
		}
	}
}

func TestAskOfWhatIsNotGood(t *testing.T) { // P21.4: it does nothing
	for what, r := range notGood() {
		for which, c := range map[string]*Core{
			"a head": core(t, 4, 0), "another": core(t, 4, 2), "a passive one": core(t, 4, 3), "one that isn't active": core(t, 4, 0, promise(b10)), "one with sessions": core(t, 4, 0, save(4, stateAt(4))), "a busy one": busy(t, 4, 2),
		} {
			nothing(t, what+" for "+which, c, func() []api.Act { return c.Ask(r) })
		}
	}
	for _, r := range []api.Req{zero, {Op: []byte{}, Sig: []byte{}}, {Client: 1, Stamp: 5}, {Client: 1, Stamp: 5, Sig: put(1, 5).Sig}} {
		c := core(t, 4, 0, save(4, stateAt(4)))
		nothing(t, fmt.Sprint("request ", r), c, func() []api.Act { return c.Ask(r) })
	}
	right := put(2, 9)
	asks(t, "what they part from", core(t, 4, 0), right, isProposed(b00, 1, right), proposes(b00, from(0, 4), 1, right)...)
}

func TestAskAgain(t *testing.T) { // P21.4: with the session's Stamp its Result is told by each replica, whatever is asked; with a lower one nothing is
	start := stateAt(4)
	start.Sessions = append(start.Sessions, api.Session{Client: 4, Stamp: 9, Result: api.Result{Code: old, Value: []byte("x")}})
	for me := range 4 {
		for which, more := range map[string][]api.Msg{"active": nil, "not active": {promise(b50)}} {
			c, what := core(t, 4, me, append([]api.Msg{save(4, start)}, more...)...), fmt.Sprintf("replica %d, %s", me, which)
			for _, r := range []api.Req{put(1, 5), get(1, 5), asked(1, 5, []byte{4, 1, 'z', 0, 0, 0})} {
				asks(t, what+": the session's", c, r, unchanged, reply(me, r, yes, "one"))
			}
			asks(t, what+": another's", c, get(3, 7), unchanged, reply(me, get(3, 7), missing, ""))
			for _, r := range []api.Req{put(1, 4), put(1, 1), get(3, 6), put(3, 1), put(4, 9), put(4, 8)} {
				nothing(t, fmt.Sprintf("%s: client %d, Stamp %d", what, r.Client, r.Stamp), c, func() []api.Act { return c.Ask(r) })
			}
			for i, r := range []api.Req{put(1, 6), put(2, 1), get(3, 8), put(4, 10)} {
				if me == 0 && which == "active" {
					asks(t, what+": above", c, r, isProposed(b00, 5+i, r), proposes(b00, from(0, 4), 5+i, r)...)
				} else {
					asks(t, what+": above", c, r, waits(r))
				}
			}
			// One that waits changes nothing of what was done.
			asks(t, what+": the session's, while one waits", c, put(1, 5), unchanged, reply(me, put(1, 5), yes, "one"))
			nothing(t, what+": below, while one waits", c, func() []api.Act { return c.Ask(put(1, 4)) })
		}
	}
}

func TestAskWithPending(t *testing.T) { // P21.4: of a client the highest Stamp waits, and of one Stamp the first request
	for which, c := range map[string]*Core{"place 1": core(t, 4, 1), "the last place": core(t, 4, 3), "not active": core(t, 4, 0, promise(b10)), "not active in a ballot of its own": core(t, 4, 0, promise(api.Ballot{View: 4}))} {
		asks(t, which+": the first", c, put(2, 5), waits(put(2, 5)))
		for _, r := range []api.Req{put(2, 5), get(2, 5), put(2, 4), put(2, 1)} {
			asks(t, fmt.Sprintf("%s: Stamp %d", which, r.Stamp), c, r, unchanged)
		}
		asks(t, which+": another client's", c, get(1, 3), waits(get(1, 3)))
		asks(t, which+": higher", c, get(2, 6), waits(get(2, 6)))
		asks(t, which+": what it was", c, put(2, 5), unchanged)
		asks(t, which+": much higher", c, put(2, greatest), waits(put(2, greatest)))
		asks(t, which+": a third client's", c, get(4, 1), waits(get(4, 1)))
		asks(t, which+": the fourth's", c, get(3, 1), waits(get(3, 1)))
		asks(t, which+": the first again", c, put(1, 2), unchanged)
	}
}

func TestHeadAskedWithPending(t *testing.T) { // P21.4: the head proposes what is asked, also if it doesn't wait itself
	c, order := core(t, 4, 0), from(0, 4)
	asks(t, "the first", c, put(2, 5), isProposed(b00, 1, put(2, 5)), proposes(b00, order, 1, put(2, 5))...)
	asks(t, "a lower Stamp", c, put(2, 4), func(s *api.Core) { atVote(s, 2, b00, put(2, 4)) }, proposes(b00, order, 2, put(2, 4))...)
	asks(t, "a higher Stamp", c, get(2, 6), isProposed(b00, 3, get(2, 6)), proposes(b00, order, 3, get(2, 6))...)
	// What was voted for is sent again, not another one with the same Stamp.
	asks(t, "the same Stamp", c, put(2, 6), unchanged, again(b00, order, 3, get(2, 6)))
	asks(t, "the same Stamp of the first", c, get(2, 5), unchanged, again(b00, order, 1, put(2, 5)))
	// One that waited already is proposed when it is asked again.
	c = core(t, 4, 0, promise(b10))
	asks(t, "not active", c, put(2, 5), waits(put(2, 5)))
	c.Redo(enter(api.Ballot{View: 4}, 0, order))
	asks(t, "another with its Stamp", c, get(2, 5), func(s *api.Core) { atVote(s, 1, api.Ballot{View: 4}, get(2, 5)) }, proposes(api.Ballot{View: 4}, order, 1, get(2, 5))...)
	asks(t, "that which waits", c, put(2, 5), unchanged, again(api.Ballot{View: 4}, order, 1, get(2, 5)))
}

func TestAskAgainInTheBallot(t *testing.T) { // P21.4: what was voted for in this ballot is sent again, until it is committed; the lowest slot counts
	b := api.Ballot{View: 4, Turn: 1}
	order := []int{0, 3, 1, 2}
	start := []api.Msg{enter(b, 0, order), voted(b, 3, put(1, 1)), voted(b, 5, get(1, 1)), voted(b, 7, put(2, 1)), voted(b10, 2, put(3, 1)), voted(b10, 4, put(2, 1)), voted(b, 8, put(2, 1))}
	c := core(t, 4, 0, start...)
	asks(t, "at slot 3", c, put(1, 1), waits(put(1, 1)), again(b, order, 3, put(1, 1)))
	asks(t, "at slot 3, another at slot 5", c, get(1, 1), unchanged, again(b, order, 3, put(1, 1)))
	asks(t, "at slots 7 and 8, in another ballot at slot 4", c, put(2, 1), waits(put(2, 1)), again(b, order, 7, put(2, 1)))
	asks(t, "in another ballot at slot 2", c, put(3, 1), isProposed(b, 9, put(3, 1)), proposes(b, order, 9, put(3, 1))...)
	asks(t, "at slot 9", c, put(3, 1), unchanged, again(b, order, 9, put(3, 1)))

	c = core(t, 4, 0, append(start, done(b, 3, put(1, 1), nil), prepared(b, 7, put(2, 1), nil), done(b10, 8, zero, nil))...)
	asks(t, "committed at slot 3", c, put(1, 1), waits(put(1, 1)))
	asks(t, "committed at slot 3 as another", c, get(1, 1), unchanged)
	asks(t, "prepared at slot 7", c, put(2, 1), waits(put(2, 1)), again(b, order, 7, put(2, 1)))
	asks(t, "a higher Stamp", c, put(1, 2), isProposed(b, 9, put(1, 2)), proposes(b, order, 9, put(1, 2))...)

	// Another request is committed where this one was voted for.
	c = core(t, 4, 0, append(start, done(b10, 7, zero, nil))...)
	asks(t, "another is committed", c, put(2, 1), waits(put(2, 1)))
}

func TestCommittedRequestsAskedAgain(t *testing.T) { // P21.4: voted for in another ballot, whether it is committed or not; proposed anew
	b := api.Ballot{View: 4}
	for _, more := range [][]api.Msg{nil, {done(b10, 3, put(1, 1), nil)}} {
		c := core(t, 4, 0, append([]api.Msg{voted(b10, 3, put(1, 1)), enter(b, 0, from(0, 4))}, more...)...)
		asks(t, "voted for in another ballot", c, put(1, 1), isProposed(b, 1, put(1, 1)), proposes(b, from(0, 4), 1, put(1, 1))...)
	}
	c := core(t, 4, 0, prepared(b00, 3, put(1, 1), nil), done(b00, 2, put(1, 1), nil))
	asks(t, "prepared and committed, not voted for", c, put(1, 1), isProposed(b00, 1, put(1, 1)), proposes(b00, from(0, 4), 1, put(1, 1))...)
}

func TestNextSlot(t *testing.T) { // P21.4: above Low, Base with the picks, and what was voted for in this ballot
	b := api.Ballot{View: 4}
	r := put(2, 3)
	picks := func(many int) []api.Req { return make([]api.Req, many) }
	for what, x := range map[string]struct {
		start []api.Msg
		slot  int
	}{
		"Low":                         {[]api.Msg{save(4, stateAt(4)), enter(b, 0, from(0, 4))}, 5},
		"Low above Base":              {[]api.Msg{save(4, stateAt(9)), enter(b, 7, from(0, 4), picks(1)...)}, 10},
		"Low above the picks by one":  {[]api.Msg{save(4, stateAt(9)), enter(b, 7, from(0, 4))}, 10},
		"the picks above Low":         {[]api.Msg{save(4, stateAt(9)), enter(b, 7, from(0, 4), picks(3)...)}, 11},
		"Base":                        {[]api.Msg{enter(b, 7, from(0, 4))}, 8},
		"Base with picks":             {[]api.Msg{enter(b, 2, from(0, 4), picks(5)...)}, 8},
		"as far as can be":            {[]api.Msg{enter(b, 0, from(0, 4), picks(15)...)}, 16},
		"a vote":                      {[]api.Msg{enter(b, 2, from(0, 4)), voted(b, 7, zero)}, 8},
		"votes":                       {[]api.Msg{enter(b, 2, from(0, 4)), voted(b, 9, zero), voted(b, 4, put(1, 1)), voted(b, 7, put(3, 1))}, 10},
		"a vote below Base":           {[]api.Msg{enter(b, 9, from(0, 4)), voted(b, 4, zero)}, 10},
		"a vote among the picks":      {[]api.Msg{enter(b, 2, from(0, 4), picks(5)...), voted(b, 4, zero)}, 8},
		"the vote at the last pick":   {[]api.Msg{enter(b, 2, from(0, 4), picks(5)...), voted(b, 7, zero)}, 8},
		"votes in other ballots":      {[]api.Msg{voted(b10, 9, zero), enter(b, 2, from(0, 4)), voted(b, 5, zero), voted(b00, 6, put(2, 3)), voted(api.Ballot{View: 4, Turn: -1}, 7, zero)}, 6},
		"what is prepared and done":   {[]api.Msg{enter(b, 2, from(0, 4)), prepared(b, 9, zero, nil), done(b, 9, zero, nil)}, 3},
		"a vote that was done":        {[]api.Msg{enter(b, 0, from(0, 4)), voted(b, 1, put(1, 1)), done(b, 1, put(1, 1), nil)}, 2},
		"what was done without votes": {[]api.Msg{enter(b, 0, from(0, 4)), done(b, 1, put(1, 1), nil)}, 1},
		"the last slots":              {[]api.Msg{save(4, stateAt(mostSlot)), enter(b, mostSlot, from(0, 4), picks(15)...)}, mostSlot + 16},
	} {
		asks(t, what, core(t, 4, 0, x.start...), r, isProposed(b, x.slot, r), proposes(b, from(0, 4), x.slot, r)...)
	}
	for what, start := range map[string][]api.Msg{
		"sixteen picks":          {enter(b, 0, from(0, 4), picks(16)...)},
		"a vote at the last":     {enter(b, 0, from(0, 4)), voted(b, 16, zero)},
		"Base":                   {enter(b, 16, from(0, 4))},
		"far Base":               {enter(b, mostSlot, from(0, 4), picks(16)...)},
		"Base far above Low":     {save(4, stateAt(4)), enter(b, 20, from(0, 4))},
		"a vote at the last one": {save(4, stateAt(4)), enter(b, 0, from(0, 4)), voted(b, 20, put(1, 9))},
	} {
		asks(t, "not In: "+what, core(t, 4, 0, start...), r, waits(r))
	}
}

func TestFullWindow(t *testing.T) { // P21.4: sixteen requests are proposed, more when Low goes up
	c := core(t, 4, 0)
	for slot := 1; slot <= open; slot++ {
		r := put(1+slot%4, slot)
		asks(t, "a window", c, r, isProposed(b00, slot, r), proposes(b00, from(0, 4), slot, r)...)
	}
	r := put(3, 40)
	asks(t, "one more", c, r, waits(r))
	asks(t, "one more again", c, r, unchanged)
	c.Redo(save(4, stateAt(4)))
	asks(t, "behind another Low", c, r, isProposed(b00, 17, r), proposes(b00, from(0, 4), 17, r)...)
}

func TestAskOfAHeadByTurns(t *testing.T) { // P21.4: by its place, not by its number
	for _, b := range []api.Ballot{b20, {View: 2, Turn: 1}} {
		for _, order := range [][]int{{2, 3, 0, 1}, {2, 0, 1, 3}, {2, 1, 3, 0}} {
			for me := range 4 {
				c, what := core(t, 4, me, enter(b, 3, order)), fmt.Sprintf("replica %d in %v", me, order)
				if me == 2 {
					asks(t, what, c, put(1, 1), isProposed(b, 4, put(1, 1)), proposes(b, order, 4, put(1, 1))...)
				} else {
					asks(t, what, c, put(1, 1), waits(put(1, 1)))
				}
			}
		}
	}
	// In the beginning replica 0 leads; once it promised more, nobody does.
	c := core(t, 4, 0, promise(api.Ballot{View: 8}))
	asks(t, "not active", c, put(1, 1), waits(put(1, 1)))
}

func TestOldVotesAbove(t *testing.T) { // P21.4, P21.5: where records tell of a vote in a ballot above, that isn't one in this ballot
	c := core(t, 4, 0, voted(b50, 1, put(1, 1)))
	asks(t, "a vote above", c, put(2, 1), waits(put(2, 1)), proposes(b00, from(0, 4), 1, put(2, 1))...)
}
