package chain

import (
	"fmt"
	"math"
	"slices"
	"testing"

	"catenary/api"
)

// busy is replica me of n in the midst of things: in ballot 2 1 with two picks, Low 4, slots 5 and 6 done, others known in part, and requests that wait.
func busy(t *testing.T, n, me int) *Core {
	t.Helper()
	b := api.Ballot{View: 2, Turn: 1}
	c := core(t, n, me,
		save(n, stateAt(4)), enter(b, 5, around(2, n), put(2, 6), zero),
		voted(b10, 5, put(2, 5)), prepared(b10, 5, put(2, 5), cert(n, chainKind, b10, 5, put(2, 5))),
		voted(b, 6, put(2, 6)),
		voted(b, 8, put(3, 8)), prepared(b, 8, put(3, 8), cert(n, chainKind, b, 8, put(3, 8))),
		done(b10, 5, put(2, 5), cert(n, ackKind, b10, 5, put(2, 5))), done(b, 6, put(2, 6), cert(n, ackKind, b, 6, put(2, 6))),
		done(b, 12, put(4, 12), cert(n, ackKind, b, 12, put(4, 12))), voted(b10, 20, zero),
	)
	c.Ask(put(4, 3))
	c.Ask(put(3, 8))
	return c
}

// now is the ballot in which busy is.
var now = api.Ballot{View: 2, Turn: 1}

func TestBusy(t *testing.T) { // P21.2: the state that the other tests begin with
	c := busy(t, 4, 1)
	state := api.Core{
		Ballot: now, Active: true, Base: 5, Order: []int{2, 3, 0, 1}, Picks: []api.Req{put(2, 6), zero},
		Low: 4, Data: spell(stateAt(4)), Stable: save(4, stateAt(4)).Cert,
		App: after(stateAt(4), put(2, 5), put(2, 6)), Pending: []api.Req{put(3, 8), put(4, 3)},
	}
	atVote(&state, 5, b10, put(2, 5))
	atPrep(&state, 5, b10, put(2, 5), cert(4, chainKind, b10, 5, put(2, 5)))
	atDone(&state, 5, b10, put(2, 5), cert(4, ackKind, b10, 5, put(2, 5)))
	atVote(&state, 6, now, put(2, 6))
	atDone(&state, 6, now, put(2, 6), cert(4, ackKind, now, 6, put(2, 6)))
	atVote(&state, 8, now, put(3, 8))
	atPrep(&state, 8, now, put(3, 8), cert(4, chainKind, now, 8, put(3, 8)))
	atDone(&state, 12, now, put(4, 12), cert(4, ackKind, now, 12, put(4, 12)))
	atVote(&state, 20, b10, zero)
	is(t, "busy", c, state)
}

// promises is what a KPromise changes.
func promises(b api.Ballot) func(s *api.Core) {
	return func(s *api.Core) {
		s.Ballot, s.Active, s.Base, s.Order, s.Picks = b, false, 0, nil, nil
	}
}

// enters is what a KEnter changes.
func enters(m api.Msg) func(s *api.Core) {
	return func(s *api.Core) {
		s.Ballot, s.Active, s.Base, s.Order, s.Picks = m.Ballot, true, m.Slot, m.Order, m.Picks
	}
}

func TestPromiseRecord(t *testing.T) { // P21.2: of a ballot above, whatever its numbers are; while it is active and while it isn't
	views, turns := []int{2, 3, mostView, mostView + 1, math.MaxInt}, odd()
	for _, view := range append(odd(), views...) {
		for _, turn := range turns {
			b := api.Ballot{View: view, Turn: turn}
			what := fmt.Sprintf("KPromise of %v", b)
			active, passive := busy(t, 4, 1), core(t, 4, 1, voted(b50, 3, zero), promise(now))
			for which, c := range map[string]*Core{" while active": active, " while not": passive} {
				if view < 2 || view == 2 && turn <= 1 {
					ignores(t, what+which, c, promise(b))
					continue
				}
				redoes(t, what+which, c, promise(b), promises(b))
				ignores(t, what+which+", again", c, promise(b))
				ignores(t, what+which+", then the one before", c, promise(now))
			}
		}
	}
}

func TestEnterRecord(t *testing.T) { // P21.2: of the same ballot and of ones above, of which one was promised, too
	for _, n := range rightNs {
		for _, b := range []api.Ballot{now, {View: 2, Turn: 2}, {View: 3}, {View: 5, Turn: -7}, {View: mostView + 1, Turn: greatest + 1}, {View: math.MaxInt, Turn: math.MaxInt}} {
			head := b.View % n
			for _, order := range [][]int{around(head, n), slices.Concat([]int{head}, around((head+2)%n, n)[:n-2], []int{(head + 1) % n})} {
				for _, base := range []int{0, 1, 4, 5, 21, 1000, mostSlot} {
					m := enter(b, base, order, get(2, 3), zero, put(1, 1))
					what := fmt.Sprintf("KEnter of %v at %d with %v", b, base, order)
					c := busy(t, n, 1)
					redoes(t, what, c, m, enters(m))
					redoes(t, what+", without picks", c, enter(b, 3, around(head, n)), enters(enter(b, 3, around(head, n))))
					c = core(t, n, 0, promise(b))
					redoes(t, what+", behind a promise", c, m, enters(m))
				}
			}
		}
	}
}

func TestWrongEnterRecords(t *testing.T) { // P21.2: each parts from a right one in one thing alone
	b := api.Ballot{View: 3}
	right := func() api.Msg { return enter(b, 6, []int{3, 1, 0, 2}, put(1, 6), zero, get(4, 1)) }
	wrong := map[string]api.Msg{}
	put := func(what string, change func(m *api.Msg)) {
		m := right()
		change(&m)
		wrong[what] = m
	}
	for _, n := range append(odd(), math.MinInt+6, 6-1<<32, 1<<32+6, mostSlot+2) {
		if n < 0 || n > mostSlot {
			put(fmt.Sprint("Slot ", n), func(m *api.Msg) { m.Slot = n })
		}
	}
	for what, order := range map[string][]int{
		"no Order": nil, "an empty Order": {}, "one short": {3, 1, 0}, "one alone": {3}, "one twice": {3, 1, 1, 2}, "the head twice": {3, 1, 3, 2}, "one too many": {3, 1, 0, 2, 4}, "the head again behind": {3, 1, 0, 2, 3},
		"a stranger": {3, 1, 0, 4}, "one below 0": {3, 1, 0, -1}, "of 7": {3, 1, 0, 2, 4, 5, 6}, "another head": {1, 3, 0, 2}, "head 0": {0, 1, 2, 3}, "head 2": {2, 1, 0, 3}, "the head at the end": {0, 1, 2, 3},
	} {
		put(what, func(m *api.Msg) { m.Order = order })
	}
	for what, ballot := range map[string]api.Ballot{
		"a Turn lower": {View: 2, Turn: 0}, "a View lower": {View: 1, Turn: 9}, "0 0": {}, "of Views below 0": {View: -1}, "of the least View": {View: math.MinInt}, "a Turn far below": {View: 2, Turn: math.MinInt},
	} {
		put(what, func(m *api.Msg) { m.Ballot, m.Order = ballot, around(((ballot.View%4)+4)%4, 4) })
	}
	put("another head's View", func(m *api.Msg) { m.Ballot.View = 4 })
	put("another head's great View", func(m *api.Msg) { m.Ballot.View = math.MaxInt - 1 })
	for what, r := range notGood() {
		for i := range 3 {
			put(fmt.Sprintf("pick %d with %s", i, what), func(m *api.Msg) { m.Picks[i] = r })
		}
		put("one pick more with "+what, func(m *api.Msg) { m.Picks = append(m.Picks, r) })
	}
	for what, r := range nearlyZero() {
		put("a pick that is zero but for "+what, func(m *api.Msg) { m.Picks[1] = r })
	}
	put("17 picks", func(m *api.Msg) { m.Picks = make([]api.Req, 17) })
	put("100 picks", func(m *api.Msg) { m.Picks = slices.Repeat(m.Picks[:1], 100) })

	for what, m := range wrong {
		ignores(t, "KEnter with "+what, busy(t, 4, 1), m)
		ignores(t, "KEnter with "+what+", behind a promise", core(t, 4, 1, promise(now)), m)
	}
	redoes(t, "the right KEnter", busy(t, 4, 1), right(), enters(right()))
	ignores(t, "a right KEnter of 7", busy(t, 4, 1), enter(api.Ballot{View: 3}, 6, around(3, 7)))
	ignores(t, "a right KEnter of 4 at 7", busy(t, 7, 1), right())
}

// nearlyZero are requests that aren't the zero one, each for one field alone.
func nearlyZero() map[string]api.Req {
	return map[string]api.Req{
		"Client 1": {Client: 1}, "Client -1": {Client: -1}, "Stamp 1": {Stamp: 1}, "Stamp -1": {Stamp: -1}, "a far Stamp": {Stamp: 1 << 32}, "an Op": {Op: []byte{0}}, "an operation": {Op: get(1, 1).Op}, "a Sig": {Sig: []byte{0}}, "a longer Sig": {Sig: make([]byte, 32)},
	}
}

func TestMostPicks(t *testing.T) { // P21.2: 16 of them, zero ones and others, at each place; one request may be picked twice
	for many := range 20 {
		var picks []api.Req
		for i := range many {
			picks = append(picks, []api.Req{zero, put(1+i%4, 3), get(4, 4), {Op: []byte{}, Sig: []byte{}}}[i%4])
		}
		m, what, c := enter(b50, 9, []int{1, 0, 2, 3}, picks...), fmt.Sprintf("%d picks", many), busy(t, 4, 2)
		if many > open {
			ignores(t, what, c, m)
			continue
		}
		redoes(t, what, c, m, enters(m))
	}
}

func TestSlotRecords(t *testing.T) { // P21.2: KVote, KPrep and KDone, as layer 17 takes them
	r, other := put(1, 9), get(2, 4)
	some := cert(4, chainKind, b10, 9, r)
	for _, slot := range []int{5, 7, 9, 19, 20} {
		for _, b := range []api.Ballot{{}, b10, now, b50, {View: -3, Turn: math.MaxInt}} {
			what := fmt.Sprintf(" at %d in %v", slot, b)
			c := core(t, 4, 1, save(4, stateAt(4)))
			redoes(t, "KVote"+what, c, voted(b, slot, r), func(s *api.Core) { atVote(s, slot, b, r) })
			redoes(t, "KPrep"+what, c, prepared(b, slot, other, some), func(s *api.Core) { atPrep(s, slot, b, other, some) })
			above := api.Ballot{View: b.View, Turn: b.Turn - 1}
			redoes(t, "KPrep without Cert"+what, c, prepared(api.Ballot{View: b.View + 1}, slot, zero, nil), func(s *api.Core) { atPrep(s, slot, api.Ballot{View: b.View + 1}, zero, nil) })
			redoes(t, "KDone"+what, c, done(above, slot, zero, some), func(s *api.Core) {
				atDone(s, slot, above, zero, some)
				if slot == 5 {
					s.App.Slot = 5
				}
			})
		}
	}
}

func TestWrongSlotRecords(t *testing.T) { // P21.2: where layer 17 refuses, nothing happens
	r, other := put(1, 9), put(1, 9)
	other.Sig = []byte("another")
	for _, slot := range append(odd(), 4-open, 3, 4, 21, 22, 1<<32+5) {
		if slot > 4 && slot <= 20 {
			continue
		}
		for _, m := range []api.Msg{voted(b50, slot, r), prepared(b50, slot, r, nil), done(b50, slot, r, nil)} {
			ignores(t, fmt.Sprintf("kind %d at %d", m.Kind, slot), busy(t, 4, 1), m)
		}
	}
	votes := cert(4, chainKind, b50, 9, r)
	for _, slot := range []int{9, 10} {
		start := []api.Msg{voted(b20, slot, r), prepared(b20, slot, r, nil), done(b20, slot, r, nil)}
		for what, m := range map[string]api.Msg{
			"a vote in a lower ballot": voted(b11, slot, r), "a vote in ballot 0 0": voted(b00, slot, r), "a vote for another": voted(b20, slot, other), "a vote for the zero request": voted(b20, slot, zero),
			"a prep in a lower ballot": prepared(b11, slot, r, votes), "a prep in ballot 0 0": prepared(b00, slot, r, votes), "a prep for another": prepared(b20, slot, other, votes), "a prep for the zero request": prepared(b20, slot, zero, votes),
			"another that is done": done(b20, slot, other, votes), "another that is done in a ballot above": done(b50, slot, other, votes), "the zero request is done": done(b00, slot, zero, votes),
			"the same is done": done(b20, slot, r, nil), "the same is done in a ballot above": done(b50, slot, r, votes), "the same is done below": done(b00, slot, r, votes),
		} {
			ignores(t, what, core(t, 4, 1, start...), m)
		}
	}
	c := core(t, 4, 1, save(4, stateAt(4)), voted(b20, 5, r), prepared(b20, 5, r, nil))
	redoes(t, "a vote above", c, voted(b50, 5, other), func(s *api.Core) { atVote(s, 5, b50, other) })
	redoes(t, "a prep with another Cert", c, prepared(b20, 5, r, votes), func(s *api.Core) { atPrep(s, 5, b20, r, votes) })
	ignores(t, "a vote that is no more the last", c, voted(b20, 5, r))
}

func TestDoneRecords(t *testing.T) { // P21.2: behind them the slots are done that can be, and nothing is told
	row := []api.Req{put(1, 1), get(3, 1), zero, put(1, 2), put(2, 1), get(1, 3), get(4, 1)}
	c := core(t, 4, 0)
	c.Ask(put(1, 2))
	c.Ask(put(2, 9))
	waits := func(s *api.Core) { s.Pending = []api.Req{put(1, 2), put(2, 9)} }
	state := c.State()
	for i, slot := range []int{2, 3, 7, 1, 5, 6, 4} {
		far := map[int]int{3: 3, 4: 3, 5: 3, 6: 7}[i]
		redoes(t, fmt.Sprintf("KDone at %d", slot), c, done(b10, slot, row[slot-1], nil), func(s *api.Core) {
			atDone(s, slot, b10, row[slot-1], nil)
			s.App = after(api.App{}, row[:far]...)
			waits(s)
			if far == 7 {
				s.Pending = []api.Req{put(2, 9)}
			}
		})
	}
	if state.App.Slot != 0 || len(state.Numbers) != 2 {
		t.Errorf("the state in the beginning: %+v", state)
	}
}

func TestSaveRecord(t *testing.T) { // P21.2: ahead of App's Slot: the state is taken over
	for _, n := range rightNs {
		for _, slot := range []int{7, 8, 9, 11, 12, 19, 21, 40, mostSlot - 1, mostSlot} {
			a := stateAt(slot)
			a.Sessions = append(a.Sessions, api.Session{Client: 4, Stamp: 3})
			redoes(t, fmt.Sprintf("KSave of %d at %d", slot, n), busy(t, n, 1), save(n, a), func(s *api.Core) {
				saves(s, save(n, a))
				s.App, s.Pending = a, []api.Req{put(3, 8)}
				if slot == 11 {
					s.App = after(a, put(4, 12))
					s.Pending = []api.Req{put(3, 8)}
				}
			})
		}
	}
}

// saves is what a KSave changes but for App and Pending.
func saves(s *api.Core, m api.Msg) {
	s.Low, s.Data, s.Stable = m.Slot, m.Data, m.Cert
	numbers, slots := s.Numbers, s.Slots
	s.Numbers, s.Slots = nil, nil
	for i, slot := range numbers {
		if slot > m.Slot && slot <= m.Slot+open {
			s.Numbers, s.Slots = append(s.Numbers, slot), append(s.Slots, slots[i])
		}
	}
}

func TestSaveRecordBehind(t *testing.T) { // P21.2: not ahead of App's Slot: the own state stays, whatever Data are; what waits, too
	for _, slot := range []int{5, 6} {
		for _, a := range []api.App{after(stateAt(4), []api.Req{put(2, 5), put(2, 6)}[:slot-4]...), stateAt(slot), {Slot: slot, Sessions: []api.Session{{Client: 3, Stamp: greatest}, {Client: 4, Stamp: greatest}}}, {Slot: slot}} {
			redoes(t, fmt.Sprintf("KSave of %d", slot), busy(t, 4, 1), save(4, a), func(s *api.Core) { saves(s, save(4, a)) })
		}
	}
}

func TestSaveRecordAndPending(t *testing.T) { // P21.2: of each client those go whose Stamps aren't above its session's
	for below := -1; below <= 1; below++ {
		c := core(t, 4, 3)
		for client := 1; client <= 4; client++ {
			c.Ask(put(client, 10*client+below))
		}
		a := api.App{Slot: 3, Sessions: []api.Session{{Client: 1, Stamp: 10}, {Client: 3, Stamp: 30}, {Client: 4, Stamp: 40}}}
		redoes(t, fmt.Sprintf("Stamps %d above", below), c, save(4, a), func(s *api.Core) {
			saves(s, save(4, a))
			s.App, s.Pending = a, []api.Req{put(2, 20+below)}
			if below > 0 {
				s.Pending = []api.Req{put(1, 11), put(2, 21), put(3, 31), put(4, 41)}
			}
		})
	}
}

func TestSaveRecordAndDoing(t *testing.T) { // P21.2: behind it the slots are done that can be
	row := []api.Req{put(1, 6), zero, put(3, 7), put(3, 8), get(4, 1)}
	c := core(t, 4, 3, dones(5, row...)...)
	c.Redo(dones(11, put(2, 2))...)
	for _, r := range []api.Req{put(1, 6), put(2, 1), put(3, 9), put(4, 2)} {
		c.Ask(r)
	}
	redoes(t, "KSave", c, save(4, stateAt(4)), func(s *api.Core) {
		saves(s, save(4, stateAt(4)))
		s.App, s.Pending = after(stateAt(4), row...), []api.Req{put(2, 1), put(3, 9), put(4, 2)}
	})
	hasState(t, "behind KSave", c, 8, after(stateAt(4), row[:4]...))
}

func TestWrongSaveRecords(t *testing.T) { // P21.2: each parts from a right one in one thing alone
	right := func() api.Msg { return save(4, stateAt(8)) }
	wrong := map[string]api.Msg{}
	put := func(what string, change func(m *api.Msg)) {
		m := right()
		change(&m)
		wrong[what] = m
	}
	// These are right ones but for Low.
	for _, slot := range []int{0, 1, 2, 3, 4} {
		wrong[fmt.Sprintf("Slot %d", slot)] = save(4, stateAt(slot))
	}
	for _, slot := range append(odd(), 7, 9, 12) {
		if slot != 8 {
			put(fmt.Sprintf("Slot %d of another's Data", slot), func(m *api.Msg) {
				m.Slot = slot
				m.Cert = votes(checkKind, b00, slot, digest(m.Data), from(1, 3)...)
			})
			put(fmt.Sprintf("Slot %d alone", slot), func(m *api.Msg) { m.Slot = slot })
		}
	}
	state := spell(stateAt(8))
	for what, data := range map[string][]byte{
		"no Data": nil, "a byte": {8}, "Data cut short": state[:len(state)-1], "longer Data": append(slices.Clone(state), 0), "zeros": {0, 0, 0, 0}, "a state that isn't right": spell(api.App{Slot: 8, Sessions: []api.Session{{Client: 5, Stamp: 1}}}),
		"a state above all": spell(api.App{Slot: mostSlot + 1}), "another way to write it": append([]byte{136, 0}, state[1:]...),
	} {
		put(what, func(m *api.Msg) {
			m.Data = data
			m.Cert = votes(checkKind, b00, 8, digest(data), from(1, 3)...)
		})
		put(what+" with the right Cert", func(m *api.Msg) { m.Data = data })
	}
	put("another state's Data", func(m *api.Msg) { m.Data = spell(api.App{Slot: 8}) })
	put("another Digest", func(m *api.Msg) { m.Cert = votes(checkKind, b00, 8, digest(spell(api.App{Slot: 8})), from(1, 3)...) })
	put("Data for a Digest", func(m *api.Msg) { m.Cert = votes(checkKind, b00, 8, m.Data, from(1, 3)...) })
	for what, cert := range wrongVotes(4, checkKind, b00, 8, digest(state)) {
		put(what, func(m *api.Msg) { m.Cert = cert })
	}
	put("Votes for a Cert", func(m *api.Msg) { m.Votes, m.Cert = m.Cert, nil })
	for what, m := range wrong {
		ignores(t, "KSave with "+what, busy(t, 4, 1), m)
	}
	ignores(t, "a KSave of 7", busy(t, 4, 1), save(7, stateAt(8)))
	ignores(t, "a KSave of 4 at 7", busy(t, 7, 1), right())
	redoes(t, "the right KSave", busy(t, 4, 1), right(), func(s *api.Core) {
		saves(s, right())
		s.App = stateAt(8)
	})
	ignores(t, "the right KSave again", core(t, 4, 1, right()), right())
}

func TestSaveRecordBySigners(t *testing.T) { // P21.2: whichever are the quorum
	data := spell(stateAt(8))
	for _, signers := range [][]int{{0, 1, 2}, {0, 1, 3}, {0, 2, 3}, {1, 2, 3}} {
		m := api.Msg{Kind: saveKind, Slot: 8, Data: data, Cert: votes(checkKind, b00, 8, digest(data), signers...)}
		redoes(t, fmt.Sprint("KSave by ", signers), core(t, 4, 0), m, func(s *api.Core) {
			saves(s, m)
			s.App = stateAt(8)
		})
	}
}

func TestOtherRecords(t *testing.T) { // P21.2: what is no record, and no records, change nothing
	everything := api.Msg{
		Ballot: b50, Slot: 7, From: 1, To: 1, Index: 1, Count: 1, Req: put(1, 9), Other: put(2, 9), Data: spell(stateAt(7)), Sig: []byte("sig"),
		Cert: save(4, stateAt(7)).Cert, Votes: cert(4, ackKind, b50, 7, put(1, 9)), Order: around(1, 4), Picks: []api.Req{zero}, Reports: []api.Report{{}},
	}
	for _, kind := range append(odd(), from(0, 20)...) {
		if kind < promiseKind || kind > saveKind {
			m := everything
			m.Kind = kind
			ignores(t, fmt.Sprint("kind ", kind), busy(t, 4, 1), m)
			ignores(t, fmt.Sprintf("kind %d alone", kind), busy(t, 4, 1), api.Msg{Kind: kind})
		}
	}
	nothing(t, "no records", busy(t, 4, 1), func() []api.Act { busy(t, 4, 1).Redo(); return nil })
	c := busy(t, 4, 1)
	nothing(t, "no records", c, func() []api.Act { c.Redo(); c.Redo([]api.Msg{}...); return nil })
}

func TestRedoInOrder(t *testing.T) { // P21.2: one after the other
	c := core(t, 4, 2)
	c.Redo(promise(b10), promise(b50), enter(b20, 0, around(2, 4)), enter(b50, 3, around(1, 4), zero), voted(b50, 1, zero), voted(b20, 1, put(1, 1)), save(4, stateAt(8)), voted(b20, 8, zero), voted(b20, 9, zero))
	want := beginning(4)
	enters(enter(b50, 3, around(1, 4), zero))(&want)
	saves(&want, save(4, stateAt(8)))
	want.App = stateAt(8)
	atVote(&want, 9, b20, zero)
	is(t, "behind all", c, want)
}
