package chain

import (
	"fmt"
	"math"
	"slices"
	"testing"

	"catenary/api"
)

// notNumbers are those that no ballot has that is promised or entered.
var notNumbers = []int{math.MinInt, -1 << 32, -mostView, -1, mostView + 1, greatest, greatest + 1, 1 << 32, 1<<32 + 3, math.MaxInt}

func TestPromise(t *testing.T) { // P21.8: of a ballot above, not of the same, nor of one below
	for _, b := range []api.Ballot{{View: 2, Turn: 2}, {View: 2, Turn: mostView}, {View: 3}, {View: 3, Turn: 7}, {View: mostView}, {View: mostView, Turn: mostView}} {
		for _, me := range []int{0, 1, 3} {
			for what, c := range map[string]*Core{"active": busy(t, 4, me), "not active": core(t, 4, me, promise(now), voted(b50, 2, zero))} {
				does(t, fmt.Sprintf("%v, %s", b, what), c, func() []api.Act { return c.Promise(b) }, promises(b), kept(promise(b)))
				for _, other := range []api.Ballot{b, {View: b.View, Turn: b.Turn - 1}, {View: b.View - 1, Turn: mostView}, now, b10, b00} {
					nothing(t, fmt.Sprintf("%v behind %v, %s", other, b, what), c, func() []api.Act { return c.Promise(other) })
				}
			}
		}
	}
	for _, b := range []api.Ballot{now, {View: 2}, {View: 1, Turn: 9}, b00} {
		for what, c := range map[string]*Core{"active": busy(t, 4, 1), "not active": core(t, 4, 1, promise(now))} {
			nothing(t, fmt.Sprintf("%v, %s", b, what), c, func() []api.Act { return c.Promise(b) })
		}
	}
}

func TestPromiseOfOddNumbers(t *testing.T) { // P21.8: below 0 and above MaxView, of View and of Turn
	for _, odd := range notNumbers {
		for _, b := range []api.Ballot{{View: odd}, {View: odd, Turn: 3}, {View: 3, Turn: odd}, {View: mostView, Turn: odd}, {View: odd, Turn: odd}, {Turn: odd}} {
			for what, c := range map[string]*Core{"active": busy(t, 4, 1), "new": core(t, 4, 1), "below all": core(t, 4, 1, promise(api.Ballot{View: 1, Turn: math.MinInt}))} {
				nothing(t, fmt.Sprintf("%v, %s", b, what), c, func() []api.Act { return c.Promise(b) })
			}
		}
	}
	c := core(t, 4, 1, promise(api.Ballot{View: math.MaxInt}))
	nothing(t, "a ballot far above was promised", c, func() []api.Act { return c.Promise(api.Ballot{View: mostView}) })
}

// entersAs asks what an Enter tells, and what changes beside what the record does.
func entersAs(t *testing.T, what string, c *Core, m api.Msg, change func(s *api.Core), want ...api.Act) {
	t.Helper()
	does(t, what, c, func() []api.Act { return c.Enter(m.Ballot, m.Slot, m.Order, m.Picks...) }, func(s *api.Core) {
		enters(m)(s)
		change(s)
	}, append([]api.Act{kept(m)}, want...)...)
}

// doesNotEnter asks that an Enter does nothing.
func doesNotEnter(t *testing.T, what string, c *Core, m api.Msg) {
	t.Helper()
	nothing(t, what, c, func() []api.Act { return c.Enter(m.Ballot, m.Slot, m.Order, m.Picks...) })
}

func TestEnter(t *testing.T) { // P21.8: at each place; in a ballot above, and in the own one, if it isn't active; then never again
	for _, n := range rightNs {
		for _, b := range []api.Ballot{{View: 3}, {View: 2, Turn: 2}, {View: 3, Turn: mostView}, {View: mostView, Turn: 1}} {
			head := b.View % n
			order := slices.Concat([]int{head}, around((head+2)%n, n)[:n-2], []int{(head + 1) % n})
			for me := range n {
				if me == head {
					continue
				}
				m, what := enter(b, 7, order, put(1, 8), zero), fmt.Sprintf("%d of %d in %v", me, n, b)
				for which, c := range map[string]*Core{"active": busy(t, n, me), "promised": core(t, n, me, promise(b)), "promised another": core(t, n, me, promise(now))} {
					entersAs(t, what+", "+which, c, m, unchanged)
					doesNotEnter(t, what+", again", c, m)
					doesNotEnter(t, what+", another order", c, enter(b, 8, around(head, n)))
					doesNotEnter(t, what+", of the ballot before", c, enter(now, 7, around(2, n)))
				}
			}
		}
	}
	for me := range 4 {
		doesNotEnter(t, "the first ballot", core(t, 4, me), enter(b00, 0, from(0, 4)))
		doesNotEnter(t, "the first ballot with picks", core(t, 4, me), enter(b00, 0, from(0, 4), put(1, 1)))
	}
}

func TestWrongEnter(t *testing.T) { // P21.8: each parts from a right one in one thing alone
	b := api.Ballot{View: 6, Turn: 1}
	right := func() api.Msg { return enter(b, 6, []int{2, 1, 0, 3}, put(1, 6), zero, get(4, 1)) }
	wrong := map[string]api.Msg{}
	put := func(what string, change func(m *api.Msg)) {
		m := right()
		change(&m)
		wrong[what] = m
	}
	for _, odd := range notNumbers {
		if head := (odd%4 + 4) % 4; odd < 0 {
			put(fmt.Sprint("View ", odd), func(m *api.Msg) { m.Ballot.View, m.Order = odd, around(head, 4) })
		} else {
			put(fmt.Sprint("View ", odd), func(m *api.Msg) { m.Ballot.View, m.Order = odd, around(odd%4, 4) })
		}
		put(fmt.Sprint("Turn ", odd), func(m *api.Msg) { m.Ballot.Turn = odd })
	}
	for _, slot := range []int{math.MinInt, -1, mostSlot + 1, math.MaxInt} {
		put(fmt.Sprint("base ", slot), func(m *api.Msg) { m.Slot = slot })
	}
	for what, order := range map[string][]int{"no order": nil, "one short": {2, 1, 0}, "one twice": {2, 1, 1, 3}, "another head": {1, 2, 0, 3}, "of 7": {2, 1, 0, 3, 4, 5, 6}, "a stranger": {2, 1, 0, 4}} {
		put(what, func(m *api.Msg) { m.Order = order })
	}
	for what, r := range notGood() {
		put("a pick with "+what, func(m *api.Msg) { m.Picks[2] = r })
	}
	put("17 picks", func(m *api.Msg) { m.Picks = make([]api.Req, 17) })
	put("a ballot below", func(m *api.Msg) { m.Ballot = api.Ballot{View: 2} })
	put("ballot 0 0", func(m *api.Msg) { m.Ballot, m.Order = b00, from(0, 4) })
	for what, m := range wrong {
		for me := range 4 {
			doesNotEnter(t, what, busy(t, 4, me), m)
			doesNotEnter(t, what+", behind a promise", core(t, 4, me, promise(api.Ballot{View: 6})), m)
		}
	}
	for _, me := range []int{0, 1, 3} {
		entersAs(t, "the right one", busy(t, 4, me), right(), unchanged)
	}
	far := core(t, 4, 1, promise(api.Ballot{View: mostView + 3}))
	doesNotEnter(t, "a ballot that can't be entered, though it was promised", far, enter(api.Ballot{View: mostView + 3}, 0, around(3, 4)))
	entersAs(t, "sixteen picks, and the last numbers", core(t, 4, 1), enter(api.Ballot{View: mostView, Turn: mostView}, mostSlot, from(0, 4), make([]api.Req, 16)...), unchanged)
}

func TestHeadEnters(t *testing.T) { // P21.8: it votes for the picks whose slots are open, then it proposes what waits, by the clients
	for _, n := range rightNs {
		for _, me := range []int{2, n - 1} {
			l := link{n, api.Ballot{View: n + me}, 1, around(me, n), []api.Req{put(1, 8), zero, put(3, 3), zero, get(1, 9)}}
			m := enter(l.b, l.base, l.order, l.picks...)
			c := core(t, n, me, voted(b10, 6, put(2, 2)), save(n, stateAt(4)), promise(b50))
			for _, r := range []api.Req{put(4, 7), get(2, 8)} {
				c.Ask(r)
			}
			c.Redo(promise(api.Ballot{View: 1, Turn: 9}))
			var want []api.Act
			for _, x := range []struct {
				slot int
				r    api.Req
			}{{5, zero}, {6, get(1, 9)}, {7, get(2, 8)}, {8, put(4, 7)}} {
				want = append(want, proposes(l.b, l.order, x.slot, x.r)...)
			}
			entersAs(t, fmt.Sprintf("replica %d of %d", me, n), c, m, func(s *api.Core) {
				atVote(s, 5, l.b, zero)
				atVote(s, 6, l.b, get(1, 9))
				atVote(s, 7, l.b, get(2, 8))
				atVote(s, 8, l.b, put(4, 7))
			}, want...)
			doesNotEnter(t, "again", c, m)
		}
	}
}

func TestHeadEntersWithPicksThatWait(t *testing.T) { // P21.8: what waits and is picked is sent again, if it isn't committed
	l := link{4, b10, 0, around(1, 4), []api.Req{put(2, 2), put(4, 4), put(2, 2)}}
	c := core(t, 4, 1, done(b00, 2, put(4, 4), nil))
	for _, r := range []api.Req{put(4, 4), put(2, 2), put(1, 9)} {
		c.Ask(r)
	}
	want := slices.Concat(proposes(b10, l.order, 1, put(2, 2)), proposes(b10, l.order, 2, put(4, 4)), proposes(b10, l.order, 3, put(2, 2)), proposes(b10, l.order, 4, put(1, 9)), []api.Act{again(b10, l.order, 1, put(2, 2))})
	entersAs(t, "picks that wait", c, enter(b10, 0, l.order, l.picks...), func(s *api.Core) {
		atVote(s, 1, b10, put(2, 2))
		atVote(s, 2, b10, put(4, 4))
		atVote(s, 3, b10, put(2, 2))
		atVote(s, 4, b10, put(1, 9))
	}, want...)
}

func TestHeadEntersAtTheEdges(t *testing.T) { // P21.8: no pick is open; all are; some are, at both ends of the window
	b, order := b10, around(1, 4)
	var picks []api.Req
	for i := range 16 {
		picks = append(picks, []api.Req{zero, put(1, 1+i)}[i%2])
	}
	for _, base := range []int{0, 1, 4, 9, 10, 11, 20, 25, 26, 27, 40, mostSlot} {
		c := core(t, 4, 1, save(4, stateAt(10)))
		c.Ask(put(2, 1))
		var want []api.Act
		votes := map[int]api.Req{}
		for i, r := range picks {
			if slot := base + 1 + i; slot > 10 && slot <= 26 {
				want = append(want, proposes(b, order, slot, r)...)
				votes[slot] = r
			}
		}
		next := max(10, base+16) + 1
		if next <= 26 {
			want = append(want, proposes(b, order, next, put(2, 1))...)
			votes[next] = put(2, 1)
		}
		entersAs(t, fmt.Sprint("base ", base), c, enter(b, base, order, picks...), func(s *api.Core) {
			for slot, r := range votes {
				atVote(s, slot, b, r)
			}
		}, want...)
	}
}

func TestHeadEntersWhatItVotedFor(t *testing.T) { // P21.8: what records tell of votes in this ballot holds
	b, order := b10, around(1, 4)
	c := core(t, 4, 1, promise(b10), voted(b10, 1, put(1, 1)), voted(b10, 2, put(1, 2)))
	entersAs(t, "votes in this ballot", c, enter(b, 0, order, put(1, 1), zero, zero), func(s *api.Core) { atVote(s, 3, b, zero) },
		append([]api.Act{again(b, order, 1, put(1, 1))}, proposes(b, order, 3, zero)...)...)
}

func TestPassiveEntersWithPending(t *testing.T) { // P21.8: who isn't the head proposes nothing, whatever waits
	for _, me := range []int{0, 2, 3} {
		c := core(t, 4, me)
		c.Ask(put(2, 2))
		c.Ask(put(1, 2))
		entersAs(t, fmt.Sprint("replica ", me), c, enter(b10, 0, around(1, 4), put(3, 1)), unchanged)
	}
}

// savesAs asks what a Save tells, and how it changes the state.
func savesAs(t *testing.T, what string, c *Core, m api.Msg, change func(s *api.Core), want ...api.Act) {
	t.Helper()
	does(t, what, c, func() []api.Act { return c.Save(m.Slot, m.Data, m.Cert) }, func(s *api.Core) {
		saves(s, m)
		change(s)
	}, append([]api.Act{kept(m)}, want...)...)
}

// doesNotSave asks that a Save does nothing.
func doesNotSave(t *testing.T, what string, c *Core, m api.Msg) {
	t.Helper()
	nothing(t, what, c, func() []api.Act { return c.Save(m.Slot, m.Data, m.Cert) })
}

func TestSave(t *testing.T) { // P21.8: of the own state, not ahead of App's slot: what is at it and below is forgotten
	var row []api.Req
	for slot := 1; slot <= 9; slot++ {
		row = append(row, put(1+slot%3, slot))
	}
	for _, slot := range []int{4, 8} {
		c := core(t, 4, 1, append(dones(1, row...), voted(b00, 8, zero), voted(b00, 11, zero))...)
		c.Ask(put(4, 4))
		m := save(4, after(api.App{}, row[:slot]...))
		savesAs(t, fmt.Sprint("slot ", slot), c, m, unchanged)
		hasState(t, "behind it", c, slot, after(api.App{}, row[:slot]...))
		if slot == 4 {
			hasState(t, "above it", c, 8, after(api.App{}, row[:8]...))
		} else {
			noState(t, "below it", c, 4)
		}
		doesNotSave(t, "again", c, m)
		doesNotSave(t, "a lower one", c, save(4, after(api.App{}, row[:3]...)))
	}
}

func TestSaveOfOthersStates(t *testing.T) { // P21.8: not ahead of App's slot nothing but the own state is saved
	var row []api.Req
	for slot := 1; slot <= 9; slot++ {
		row = append(row, put(1+slot%3, slot))
	}
	c := core(t, 4, 1, dones(1, row...)...)
	for slot := 1; slot <= 9; slot++ {
		doesNotSave(t, fmt.Sprint("another's state of slot ", slot), c, save(4, stateAt(slot)))
		doesNotSave(t, fmt.Sprint("an empty state of slot ", slot), c, save(4, api.App{Slot: slot}))
		if slot%4 > 0 {
			doesNotSave(t, fmt.Sprint("the own state of slot ", slot), c, save(4, after(api.App{}, row[:slot]...)))
		}
	}
	savesAs(t, "slot 10", c, save(4, stateAt(10)), comes(stateAt(10)))
	doesNotSave(t, "behind slot 10", c, save(4, after(api.App{}, row[:8]...)))
}

func TestSaveAhead(t *testing.T) { // P21.8: ahead of App's slot: whatever the state is; what can be done then is done and told
	for _, n := range []int{4, 10} {
		row := []api.Req{put(1, 6), zero, put(3, 7), put(3, 8), get(4, 1)}
		c := core(t, n, 2, dones(5, row...)...)
		c.Redo(dones(11, put(2, 2))...)
		for _, r := range []api.Req{put(1, 6), put(2, 1), put(3, 9), put(4, 2), put(1, 4)} {
			c.Ask(r)
		}
		a := after(stateAt(4), row...)
		told := slices.Concat([]api.Act{reply(2, row[0], yes, ""), reply(2, row[2], missing, ""), reply(2, row[3], yes, "")}, checks(n, 2, after(stateAt(4), row[:4]...)), []api.Act{reply(2, row[4], yes, "3.8")})
		savesAs(t, "slot 4", c, save(n, stateAt(4)), func(s *api.Core) { s.App, s.Pending = a, []api.Req{put(2, 1), put(3, 9), put(4, 2)} }, told...)
		hasState(t, "slot 4", c, 4, stateAt(4))
		hasState(t, "slot 4", c, 8, after(stateAt(4), row[:4]...))

		// The next is ahead of App's, too, and nothing can be done behind it.
		savesAs(t, "slot 12", c, save(n, stateAt(12)), func(s *api.Core) { s.App = stateAt(12) })
		savesAs(t, "an odd slot", c, save(n, stateAt(13)), func(s *api.Core) { s.App = stateAt(13) })
		savesAs(t, "the last slot", c, save(n, stateAt(mostSlot)), func(s *api.Core) { s.App = stateAt(mostSlot) })
	}
}

func TestSaveAheadWhatWaits(t *testing.T) { // P21.8: requests that wait go with their sessions
	c := core(t, 4, 0, promise(b10))
	for client := 1; client <= 4; client++ {
		c.Ask(put(client, 7))
	}
	savesAs(t, "sessions", c, save(4, stateAt(4)), func(s *api.Core) {
		s.App, s.Pending = stateAt(4), []api.Req{put(1, 7), put(2, 7), put(4, 7)}
	})
}

func TestWrongSave(t *testing.T) { // P21.8: each parts from a right one in one thing alone
	right := func() api.Msg { return save(4, stateAt(8)) }
	wrong := map[string]api.Msg{}
	put := func(what string, change func(m *api.Msg)) {
		m := right()
		change(&m)
		wrong[what] = m
	}
	for slot := range 5 {
		wrong[fmt.Sprint("Low ", slot)] = save(4, stateAt(slot))
	}
	for _, slot := range append(odd(), 7, 9, 12) {
		if slot != 8 {
			put(fmt.Sprint("slot ", slot), func(m *api.Msg) { m.Slot = slot })
			put(fmt.Sprintf("slot %d with its votes", slot), func(m *api.Msg) {
				m.Slot, m.Cert = slot, votes(checkKind, b00, slot, digest(m.Data), from(1, 3)...)
			})
		}
	}
	for what, data := range map[string][]byte{"none": nil, "cut short": right().Data[1:], "longer": append(right().Data, 0), "another slot's": spell(stateAt(9)), "not right": spell(api.App{Slot: 8, Sessions: []api.Session{{Client: 9}}})} {
		put("data "+what, func(m *api.Msg) { m.Data, m.Cert = data, votes(checkKind, b00, 8, digest(data), from(1, 3)...) })
	}
	put("another's data", func(m *api.Msg) { m.Data = spell(api.App{Slot: 8}) })
	for what, cert := range wrongVotes(4, checkKind, b00, 8, digest(right().Data)) {
		put("a cert with "+what, func(m *api.Msg) { m.Cert = cert })
	}
	for what, m := range wrong {
		doesNotSave(t, what, busy(t, 4, 1), m)
	}
	doesNotSave(t, "of 7", busy(t, 4, 1), save(7, stateAt(8)))
	savesAs(t, "the right one", busy(t, 4, 1), right(), func(s *api.Core) { s.App = stateAt(8) })
}
