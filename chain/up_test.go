package chain

import (
	"fmt"
	"slices"
	"testing"

	"catenary/api"
)

// acks are the votes of all active ones, rising.
func (l link) acks(slot int, r api.Req) []api.Vote {
	return rising(ackKind, l.b, slot, body(r), l.order[:quorum(l.n)]...)
}

// commits is what all others are told.
func (l link) commits(slot int, r api.Req) []api.Act {
	return others(l.n, l.order[0], api.Msg{Kind: commitKind, Ballot: l.b, Slot: slot, Req: r, Votes: l.acks(slot, r)})
}

// isCommitted is what the head tells of a request that has come up to it; new, if it wasn't prepared, and if it wasn't committed.
func (l link) isCommitted(slot int, r api.Req, isPrepared, isNew bool) []api.Act {
	var out []api.Act
	if isPrepared {
		out = append(out, kept(prepared(l.b, slot, r, l.cert(slot, r))))
	}
	if isNew {
		out = append(out, kept(done(l.b, slot, r, l.acks(slot, r))))
	}
	return append(out, l.commits(slot, r)...)
}

// commitsAt is what a request changes at the head that has come up to it, if it can't be done yet.
func (l link) commitsAt(slot int, r api.Req) func(s *api.Core) {
	return func(s *api.Core) {
		atPrep(s, slot, l.b, r, l.cert(slot, r))
		atDone(s, slot, l.b, r, l.acks(slot, r))
	}
}

func TestUp(t *testing.T) { // P21.6: at each place of the chain, at each slot; twice, and another request
	for _, l := range links() {
		for p := range l.n {
			c, what := l.at(t, p), fmt.Sprintf("place %d of %v in %v", p, l.order, l.b)
			for _, slot := range []int{l.base + 2, l.base + 3, open} {
				r := l.asked(slot)
				if p > quorum(l.n)-2 {
					refuses(t, what, c, up(l.b, slot, r, l.cert(slot, r)))
					refuses(t, what, c, l.up(slot, quorum(l.n)-2, r))
					refuses(t, what, c, l.up(slot, 0, r))
					continue
				}
				m, other := l.up(slot, p, r), l.up(slot, p, get(3, 9))
				if p > 0 {
					takes(t, what, c, m, l.preps(slot, r), l.goesUp(slot, p, r, true)...)
					takes(t, what+", again", c, m, unchanged, l.goesUp(slot, p, r, false)...)
				} else {
					takes(t, what, c, m, l.commitsAt(slot, r), l.isCommitted(slot, r, true, true)...)
					takes(t, what+", again", c, m, unchanged, l.isCommitted(slot, r, false, false)...)
				}
				refuses(t, what+", another", c, other)
			}
		}
	}
}

func TestUpOfAllRequests(t *testing.T) { // P21.6: nothing is asked of the request beside its votes, nor that it was voted for here
	for _, p := range []int{0, 1} {
		l := link{4, b10, 2, around(1, 4), []api.Req{put(1, 1), zero}}
		list := []api.Req{zero, put(1, 2), asked(1, 9, []byte("x")), {Client: 77, Stamp: -5}, {Op: []byte{0}}}
		for _, r := range notGood() {
			list = append(list, r)
		}
		for _, r := range list {
			for _, slot := range []int{4, 8} {
				c := l.at(t, p)
				c.Redo(voted(l.b, slot, put(3, 3)))
				if p == 1 {
					takes(t, fmt.Sprint("request ", r), c, l.up(slot, p, r), l.preps(slot, r), l.goesUp(slot, p, r, true)...)
				} else {
					takes(t, fmt.Sprint("request ", r), c, l.up(slot, p, r), l.commitsAt(slot, r), l.isCommitted(slot, r, true, true)...)
				}
			}
		}
	}
}

func TestUpWithAnotherCert(t *testing.T) { // P21.6: of any quorum; that which came goes on, the first that came is kept
	for _, signers := range [][]int{{0, 1, 2}, {0, 1, 3}, {0, 2, 3}, {1, 2, 3}} {
		for p := range 2 {
			l, r := links()[0], put(1, 2)
			shown := votes(chainKind, b00, 2, body(r), signers...)
			m := up(b00, 2, r, shown, l.behind(p)...)
			c := core(t, 4, p)
			first, later := kept(prepared(b00, 2, r, shown)), l.isCommitted(2, r, false, true)
			change := func(s *api.Core) {
				atPrep(s, 2, b00, r, shown)
				if p == 0 {
					atDone(s, 2, b00, r, l.acks(2, r))
				}
			}
			if p == 1 {
				later = []api.Act{sent(0, up(b00, 2, r, shown, 2, 1))}
			}
			takes(t, fmt.Sprint("shown by ", signers), c, m, change, append([]api.Act{first}, later...)...)
			m.Cert = l.cert(2, r)
			if p == 1 {
				takes(t, fmt.Sprint("first shown by ", signers), c, m, unchanged, sent(0, l.up(2, 0, r)))
			} else {
				takes(t, fmt.Sprint("first shown by ", signers), c, m, unchanged, l.commits(2, r)...)
			}
		}
	}
}

func TestWrongUp(t *testing.T) { // P21.6: each parts from a right one in one thing alone
	l := link{7, api.Ballot{View: 9, Turn: 2}, 5, []int{2, 3, 6, 0, 1, 4, 5}, []api.Req{put(1, 1), zero}}
	for p := range 4 {
		start := func() *Core {
			return core(t, 7, l.order[p], save(7, stateAt(4)), enter(l.b, l.base, l.order, l.picks...), prepared(l.b, 11, put(1, 11), l.cert(11, put(1, 11))))
		}
		right := func() api.Msg { return l.up(9, p, put(2, 9)) }
		wrong := wrongChains(l, p, right)
		for what, cert := range wrongVotes(7, chainKind, l.b, 9, body(put(2, 9))) {
			m := right()
			m.Cert = cert
			wrong["a Cert with "+what] = m
		}
		m := right()
		m.Cert = cert(7, chainKind, l.b, 9, put(2, 8))
		wrong["a Cert of another request"] = m
		m.Cert = cert(7, chainKind, b00, 9, put(2, 9))
		wrong["a Cert of ballot 0 0"] = m
		m.Cert = right().Votes
		wrong["Votes as Cert"] = m
		m.Cert, m.Votes = nil, right().Cert
		wrong["Cert as Votes"] = m
		wrong["another than is prepared"] = l.up(11, p, put(2, 11))
		wrong["a KChain of it"] = api.Msg{Kind: chainKind, Ballot: l.b, Slot: 9, Req: put(2, 9), Cert: right().Cert, Votes: right().Votes}
		if p > 0 {
			wrong["as it came to the place ahead"] = l.up(9, p-1, put(2, 9))
		}
		wrong["as it came to the place behind"] = l.up(9, p+1, put(2, 9))
		for what, m := range wrong {
			refuses(t, fmt.Sprintf("place %d: %s", p, what), start(), m)
		}
		for _, slot := range []int{7, 8, 9, 11, 20} {
			r := l.asked(slot)
			if slot == 11 {
				r = put(1, 11)
			}
			what := fmt.Sprintf("place %d: right at %d", p, slot)
			if p > 0 {
				takes(t, what, start(), l.up(slot, p, r), l.preps(slot, r), l.goesUp(slot, p, r, slot != 11)...)
			} else {
				takes(t, what, start(), l.up(slot, p, r), l.commitsAt(slot, r), l.isCommitted(slot, r, slot != 11, true)...)
			}
		}
		notActive := start()
		notActive.Redo(promise(api.Ballot{View: 9, Turn: 3}))
		refuses(t, "not active", notActive, right())
	}
}

func TestSlotsAtLow(t *testing.T) { // P21.5, P21.6, P21.7: where Low is above Base, slots up to it are closed, too
	l := link{4, b10, 5, around(1, 4), []api.Req{put(1, 6), put(1, 7)}}
	for p := range 3 {
		c := l.at(t, p)
		c.Redo(save(4, stateAt(8)))
		for slot := 4; slot <= 8; slot++ {
			refuses(t, fmt.Sprintf("down at %d", slot), c, l.down(slot, p, put(1, slot)))
			refuses(t, fmt.Sprintf("up at %d", slot), c, l.up(slot, p, put(1, slot)))
			refuses(t, fmt.Sprintf("a commit at %d", slot), c, commits(l.b, slot, put(1, slot), 0, 1, 2))
		}
		if p > 0 {
			takes(t, "down behind Low", c, l.down(9, p, put(2, 9)), l.votes(9, p, put(2, 9)), l.goesDown(9, p, put(2, 9), true)...)
		}
	}
}

func TestUpWhatIsDone(t *testing.T) { // P21.6: the head does what it commits, with a checkpoint at every fourth slot
	l := link{7, b10, 0, around(1, 7), nil}
	c := l.at(t, 0)
	row := []api.Req{put(1, 1), get(2, 1), put(3, 1), get(2, 2), zero}
	for _, r := range row[:3] {
		c.Ask(r)
	}
	what := "the head"
	up := func(slot int, change func(s *api.Core), want ...api.Act) {
		t.Helper()
		r := row[slot-1]
		takes(t, what, c, l.up(slot, 0, r), func(s *api.Core) {
			l.commitsAt(slot, r)(s)
			change(s)
		}, append(l.isCommitted(slot, r, true, true), want...)...)
	}
	up(2, unchanged)
	up(1, func(s *api.Core) { s.App, s.Pending = after(api.App{}, row[:2]...), row[2:3] }, reply(1, row[0], yes, ""), reply(1, row[1], yes, "1.1"))
	up(4, unchanged)
	up(5, unchanged)
	a := after(api.App{}, row[:4]...)
	up(3, func(s *api.Core) { s.App, s.Pending = after(api.App{}, row...), nil }, append([]api.Act{reply(1, row[2], yes, ""), reply(1, row[3], yes, "3.1")}, checks(7, 1, a)...)...)
	takes(t, "again", c, l.up(3, 0, row[2]), unchanged, l.commits(3, row[2])...)
}

func TestUpWhatWasCommitted(t *testing.T) { // P21.6: the same in another ballot: all are told again, with the votes that came; another: it is prepared alone
	l := link{4, b10, 0, around(1, 4), nil}
	r := put(1, 3)
	for _, what := range []string{"with votes", "without votes"} {
		c, known := l.at(t, 0), []api.Vote(nil)
		if what == "with votes" {
			known = cert(4, ackKind, b00, 3, r)
		}
		c.Redo(done(b00, 3, r, known), done(b50, 4, zero, known))
		takes(t, what, c, l.up(3, 0, r), l.preps(3, r), l.isCommitted(3, r, true, false)...)
		takes(t, what+", again", c, l.up(3, 0, r), unchanged, l.commits(3, r)...)
		takes(t, what+", another", c, l.up(4, 0, r), l.preps(4, r), kept(prepared(l.b, 4, r, l.cert(4, r))))
		refuses(t, what+", another, again", c, l.up(4, 0, r))
	}
}

func TestUpInAnotherBallot(t *testing.T) { // P21.6: there another request may be prepared
	for p := range 2 {
		l := links()[0]
		c := l.at(t, p)
		c.Take(l.up(2, p, put(1, 2)))
		l.b = api.Ballot{View: 4}
		c.Redo(enter(l.b, 0, l.order))
		if p == 1 {
			takes(t, "another in another ballot", c, l.up(2, p, get(2, 2)), l.preps(2, get(2, 2)), l.goesUp(2, p, get(2, 2), true)...)
		} else {
			takes(t, "another in another ballot, committed already", c, l.up(2, p, get(2, 2)), l.preps(2, get(2, 2)), kept(prepared(l.b, 2, get(2, 2), l.cert(2, get(2, 2)))))
			takes(t, "another slot", c, l.up(3, p, get(2, 2)), l.commitsAt(3, get(2, 2)), l.isCommitted(3, get(2, 2), true, true)...)
		}
		refuses(t, "the first", c, links()[0].up(2, p, put(1, 2)))
	}
}

func TestCommit(t *testing.T) { // P21.7: at each place, active or not, of any ballot and base; the record has what came
	for _, n := range rightNs {
		for _, me := range []int{0, 1, quorum(n) - 1, n - 1} {
			for which, start := range map[string][]api.Msg{"active": nil, "not active": {promise(b50)}, "in another ballot": {enter(b20, 0, around(2, n))}, "with a Base above": {enter(b20, 40, around(2, n))}, "busy slots": {voted(b50, 5, put(1, 1)), prepared(b50, 5, put(1, 1), nil)}} {
				for _, b := range []api.Ballot{b00, b10, b50, {View: -1, Turn: 7}, {View: greatest + 1}} {
					for _, slot := range []int{2, 5, open} {
						for _, signers := range [][]int{from(0, quorum(n)), from(n-quorum(n), quorum(n)), slices.Concat([]int{0}, from(n-quorum(n)+1, quorum(n)-1))} {
							r := []api.Req{put(1, 2), zero, {Client: 9, Stamp: -1}}[slot%3]
							c, m := core(t, n, me, start...), commits(b, slot, r, signers...)
							what := fmt.Sprintf("%d of %d, %s: slot %d in %v by %v", me, n, which, slot, b, signers)
							takes(t, what, c, m, func(s *api.Core) { atDone(s, slot, b, r, m.Votes) }, kept(done(b, slot, r, m.Votes)))
							refuses(t, what+", again", c, m)
						}
					}
				}
			}
		}
	}
}

func TestWrongCommit(t *testing.T) { // P21.7: each parts from a right one in one thing alone
	b, r := api.Ballot{View: 3, Turn: 1}, put(2, 9)
	right := func() api.Msg { return commits(b, 9, r, from(1, 3)...) }
	wrong := map[string]api.Msg{}
	for what, votes := range wrongVotes(4, ackKind, b, 9, body(r)) {
		m := right()
		m.Votes = votes
		wrong[what] = m
	}
	for what, change := range map[string]func(m *api.Msg){
		"a View alone": func(m *api.Msg) { m.Ballot.View++ }, "a Turn alone": func(m *api.Msg) { m.Ballot.Turn-- }, "ballot 0 0": func(m *api.Msg) { m.Ballot = b00 }, "a Slot alone": func(m *api.Msg) { m.Slot = 10 },
		"a Req alone": func(m *api.Msg) { m.Req = put(3, 9) }, "its Client alone": func(m *api.Msg) { m.Req.Client = 3 }, "its Op alone": func(m *api.Msg) { m.Req.Op = get(2, 9).Op }, "its Sig alone": func(m *api.Msg) { m.Req.Sig = nil }, "the zero request": func(m *api.Msg) { m.Req = zero },
		"Votes as Cert": func(m *api.Msg) { m.Cert, m.Votes = m.Votes, nil }, "votes that aren't acks": func(m *api.Msg) { m.Votes = cert(4, chainKind, b, 9, r) },
	} {
		m := right()
		change(&m)
		wrong[what] = m
	}
	for _, slot := range append(odd(), 21, 22) {
		if slot <= 4 || slot > 20 {
			wrong[fmt.Sprint("Slot ", slot)] = commits(b, slot, r, from(1, 3)...)
		}
	}
	wrong["a slot that is committed"] = commits(b, 12, put(4, 12), from(0, 3)...)
	wrong["another at a slot that is committed"] = commits(b, 12, r, from(0, 3)...)
	wrong["a slot that is done"] = commits(b, 5, put(2, 5), from(0, 3)...)
	wrong["another at a slot that is done"] = commits(b50, 6, r, from(0, 3)...)
	for what, m := range wrong {
		refuses(t, what, busy(t, 4, 1), m)
	}
	takes(t, "the right one", busy(t, 4, 1), right(), func(s *api.Core) { atDone(s, 9, b, r, right().Votes) }, kept(done(b, 9, r, right().Votes)))
	refuses(t, "a commit of 7", busy(t, 4, 1), commits(b, 9, r, from(0, 5)...))
	refuses(t, "a commit of 4 at 7", busy(t, 7, 1), right())
}

func TestOtherKinds(t *testing.T) { // P21.7: nothing
	l := links()[0]
	for p := range 3 {
		for _, right := range []api.Msg{l.down(2, p, put(1, 2)), l.up(2, p, put(1, 2)), commits(b00, 2, put(1, 2), 0, 1, 2), {Ballot: b50, Slot: 8, Data: spell(stateAt(8)), Cert: save(4, stateAt(8)).Cert, Order: around(1, 4)}} {
			for _, kind := range append(odd(), from(0, 30)...) {
				if kind < chainKind || kind > commitKind {
					m := right
					m.Kind = kind
					refuses(t, fmt.Sprint("kind ", kind), l.at(t, p), m)
				}
			}
		}
		// Nor does it help that the votes are for just that kind.
		for kind := range 30 {
			for many := range 4 {
				m := api.Msg{Kind: kind, Slot: 2, Req: put(1, 2), Cert: l.cert(2, put(1, 2)), Votes: votes(kind, b00, 2, body(put(1, 2)), [][]int{l.order[:p], l.behind(p), from(0, 3), from(1, 3)}[many]...)}
				if kind < chainKind || kind > commitKind {
					refuses(t, fmt.Sprintf("kind %d with votes for it", kind), l.at(t, p), m)
				}
			}
		}
		refuses(t, "a request", l.at(t, p), api.Msg{Kind: 1, Req: put(1, 2)})
	}
}
