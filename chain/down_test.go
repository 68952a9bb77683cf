package chain

import (
	"fmt"
	"math"
	"slices"
	"testing"

	"catenary/api"
)

// link is a chain: its ballot, where it began, its order and picks.
type link struct {
	n     int
	b     api.Ballot
	base  int
	order []int
	picks []api.Req
}

// links are chains of all sizes, in the beginning, in the midst, and turned.
func links() []link {
	var out []link
	for _, n := range rightNs {
		turned := around(2, n)
		turned[1], turned[2], turned[n-1] = turned[n-1], turned[1], turned[2]
		out = append(out, link{n, b00, 0, from(0, n), nil}, link{n, b20, 5, around(2, n), []api.Req{put(1, 1), zero}}, link{n, api.Ballot{View: 2 + n, Turn: 3}, 7, turned, nil})
	}
	return out
}

// at is the replica at a place of a chain, in which nothing is known of slots.
func (l link) at(t *testing.T, p int) *Core {
	t.Helper()
	return core(t, l.n, l.order[p], enter(l.b, l.base, l.order, l.picks...))
}

// down is a request that has come down to a place.
func (l link) down(slot, p int, r api.Req) api.Msg { return down(l.b, slot, r, l.order[:p]...) }

// cert shows that all active ones have voted for a request.
func (l link) cert(slot int, r api.Req) []api.Vote {
	return rising(chainKind, l.b, slot, body(r), l.order[:quorum(l.n)]...)
}

// up is a request that has come up to a place.
func (l link) up(slot, p int, r api.Req) api.Msg {
	return up(l.b, slot, r, l.cert(slot, r), l.behind(p)...)
}

// behind are those at the active places behind one, the last first.
func (l link) behind(p int) []int {
	out := slices.Clone(l.order[p+1 : quorum(l.n)])
	slices.Reverse(out)
	return out
}

// goesDown is what the replica at a place tells that votes for a request; new, if it hadn't.
func (l link) goesDown(slot, p int, r api.Req, isNew bool) []api.Act {
	var out []api.Act
	if isNew {
		out = append(out, kept(voted(l.b, slot, r)))
	}
	if p < quorum(l.n)-1 {
		return append(out, sent(l.order[p+1], l.down(slot, p+1, r)))
	}
	return append(out, l.goesUp(slot, p, r, isNew)...)
}

// goesUp is what the replica at a place tells that acknowledges a request, but for the head.
func (l link) goesUp(slot, p int, r api.Req, isNew bool) []api.Act {
	var out []api.Act
	if isNew {
		out = append(out, kept(prepared(l.b, slot, r, l.cert(slot, r))))
	}
	return append(out, sent(l.order[p-1], l.up(slot, p-1, r)))
}

// votes is what a request changes that is voted for at a place; at the last one it is prepared, too.
func (l link) votes(slot, p int, r api.Req) func(s *api.Core) {
	return func(s *api.Core) {
		atVote(s, slot, l.b, r)
		if p == quorum(l.n)-1 {
			atPrep(s, slot, l.b, r, l.cert(slot, r))
		}
	}
}

// preps is what a request changes that is prepared.
func (l link) preps(slot int, r api.Req) func(s *api.Core) {
	return func(s *api.Core) { atPrep(s, slot, l.b, r, l.cert(slot, r)) }
}

// asked is the request that may stand at a slot: a pick, or one like no other's.
func (l link) asked(slot int) api.Req {
	if i := slot - l.base - 1; i < len(l.picks) {
		return l.picks[i]
	}
	return put(1+slot%4, slot)
}

func TestDown(t *testing.T) { // P21.5: at each place of the chain, at each slot; twice, and another request
	for _, l := range links() {
		for p := range l.n {
			c, what := l.at(t, p), fmt.Sprintf("place %d of %v in %v", p, l.order, l.b)
			for _, slot := range []int{l.base + 2, l.base + 1, l.base + 3, open} {
				r := l.asked(slot)
				m := l.down(slot, min(p, quorum(l.n)), r)
				if p < 1 || p > quorum(l.n)-1 {
					refuses(t, what, c, m)
					continue
				}
				takes(t, what, c, m, l.votes(slot, p, r), l.goesDown(slot, p, r, true)...)
				takes(t, what+", again", c, m, unchanged, l.goesDown(slot, p, r, false)...)
				refuses(t, what+", another", c, l.down(slot, p, get(3, 9)))
			}
		}
	}
}

func TestSecondRequestDown(t *testing.T) { // P21.5: one slot is voted for once in a ballot, whatever the other differs in
	l := links()[0]
	other := asked(1, 1, get(1, 1).Op)
	for p := 1; p <= 2; p++ {
		c := l.at(t, p)
		takes(t, "the first", c, l.down(1, p, put(1, 1)), l.votes(1, p, put(1, 1)), l.goesDown(1, p, put(1, 1), true)...)
		for _, r := range []api.Req{other, put(2, 1), put(1, 2), zero} {
			refuses(t, fmt.Sprintf("request %v", r), c, l.down(1, p, r))
		}
		// One request may stand at several slots.
		takes(t, "at another slot", c, l.down(2, p, put(1, 1)), l.votes(2, p, put(1, 1)), l.goesDown(2, p, put(1, 1), true)...)
	}
}

func TestDownInAnotherBallot(t *testing.T) { // P21.5: there another request may be voted for; what was prepared and committed stays
	for p := 1; p <= 2; p++ {
		l := links()[0]
		c := l.at(t, p)
		c.Take(l.down(1, p, put(1, 1)))
		l.b = api.Ballot{View: 4}
		c.Redo(enter(l.b, 0, l.order), done(b00, 1, put(1, 1), nil))
		takes(t, "another in another ballot", c, l.down(1, p, get(2, 1)), l.votes(1, p, get(2, 1)), l.goesDown(1, p, get(2, 1), true)...)
		refuses(t, "the first", c, l.down(1, p, put(1, 1)))
		before := links()[0]
		refuses(t, "of the other ballot", c, before.down(1, p, put(1, 1)))
		refuses(t, "of the other ballot at another slot", c, before.down(2, p, put(1, 1)))
	}
}

func TestDownOfPicks(t *testing.T) { // P21.5: at the picks' slots just these, GOOD or not; behind them what is GOOD
	picks := []api.Req{put(1, 1), zero, get(2, 7), put(1, 1)}
	for _, n := range []int{4, 16} {
		l := link{n, b10, 3, around(1, n), picks}
		for p := 1; p < quorum(n); p++ {
			c, what := l.at(t, p), fmt.Sprintf("place %d of %d", p, n)
			for i, pick := range picks {
				for _, r := range []api.Req{put(1, 2), asked(1, 1, get(1, 1).Op), zero, get(2, 7), put(2, 7), {Op: []byte{0}}, put(1, 1)} {
					if !equal(r, pick) {
						refuses(t, fmt.Sprintf("%s: %v for pick %d", what, r, i), c, l.down(4+i, p, r))
					}
				}
				takes(t, what+": a pick", c, l.down(4+i, p, pick), l.votes(4+i, p, pick), l.goesDown(4+i, p, pick, true)...)
			}
			refuses(t, what+": zero behind the picks", c, l.down(8, p, zero))
			takes(t, what+": behind the picks", c, l.down(8, p, put(4, 4)), l.votes(8, p, put(4, 4)), l.goesDown(8, p, put(4, 4), true)...)
		}
	}
}

func TestWrongDown(t *testing.T) { // P21.5: each parts from a right one in one thing alone
	l := link{7, api.Ballot{View: 9, Turn: 2}, 5, []int{2, 3, 6, 0, 1, 4, 5}, []api.Req{put(1, 1), zero}}
	for p := 1; p <= 4; p++ {
		start := func() *Core {
			return core(t, 7, l.order[p], save(7, stateAt(4)), enter(l.b, l.base, l.order, l.picks...), voted(l.b, 11, put(1, 11)))
		}
		right := func() api.Msg { return l.down(9, p, put(2, 9)) }
		wrong := wrongChains(l, p, right)
		for what, r := range notGood() {
			wrong["a request with "+what] = l.down(9, p, r)
		}
		for what, r := range nearlyZero() {
			wrong["a pick zero but for "+what] = l.down(7, p, r)
			wrong["a request zero but for "+what] = l.down(9, p, r)
		}
		wrong["another than the pick"] = l.down(6, p, put(1, 2))
		wrong["the first pick at the second"] = l.down(7, p, put(1, 1))
		wrong["the zero request behind the picks"] = l.down(8, p, zero)
		wrong["another than was voted for"] = l.down(11, p, put(2, 11))
		wrong["a KAck of it"] = api.Msg{Kind: ackKind, Ballot: l.b, Slot: 9, Req: put(2, 9), Votes: right().Votes}
		wrong["Votes as Cert"] = api.Msg{Kind: chainKind, Ballot: l.b, Slot: 9, Req: put(2, 9), Cert: right().Votes}
		for what, m := range wrong {
			refuses(t, fmt.Sprintf("place %d: %s", p, what), start(), m)
		}
		for _, slot := range []int{6, 7, 8, 9, 11, 20} {
			r := l.asked(slot)
			if slot == 11 {
				r = put(1, 11)
			}
			m := l.down(slot, p, r)
			if slot == 11 && p == 4 {
				takes(t, "voted for, not prepared", start(), m, l.votes(slot, p, r), l.goesDown(slot, p, r, true)[1:]...)
				continue
			}
			takes(t, fmt.Sprintf("place %d: right at %d", p, slot), start(), m, l.votes(slot, p, r), l.goesDown(slot, p, r, slot != 11)...)
		}
		notActive := start()
		notActive.Redo(promise(api.Ballot{View: 9, Turn: 3}))
		refuses(t, "not active", notActive, right())
		m := right()
		m.Ballot, m.Votes = api.Ballot{View: 9, Turn: 3}, votes(chainKind, api.Ballot{View: 9, Turn: 3}, 9, body(put(2, 9)), l.order[:p]...)
		refuses(t, "not active in the ballot that is promised", notActive, m)
	}
}

// wrongChains part from a right message at slot 9 to a place in one thing alone: the ballot, the slot, or the votes.
func wrongChains(l link, p int, right func() api.Msg) map[string]api.Msg {
	wrong := map[string]api.Msg{}
	r, kind, signers := right().Req, right().Kind, []int{}
	for _, v := range right().Votes {
		signers = append(signers, v.Signer)
	}
	remake := func(what string, b api.Ballot, slot int, signers ...int) {
		m := right()
		m.Ballot, m.Slot, m.Votes = b, slot, votes(kind, b, slot, body(r), signers...)
		if kind == ackKind {
			m.Cert = cert(l.n, chainKind, b, slot, r)
		}
		wrong[what] = m
	}
	for _, by := range []int{-9, -2, -1, 1, 7, 1 << 32} {
		remake(fmt.Sprintf("a View %d more", by), api.Ballot{View: l.b.View + by, Turn: l.b.Turn}, 9, signers...)
		remake(fmt.Sprintf("a Turn %d more", by), api.Ballot{View: l.b.View, Turn: l.b.Turn + by}, 9, signers...)
	}
	for _, slot := range []int{math.MinInt, -1, 0, 1, 3, 4, 5, 21, 22, 37, 1<<32 + 9, math.MaxInt} {
		remake(fmt.Sprintf("Slot %d", slot), l.b, slot, signers...)
	}
	for i := range signers {
		remake(fmt.Sprintf("without vote %d", i), l.b, 9, slices.Delete(slices.Clone(signers), i, i+1)...)
		remake(fmt.Sprintf("vote %d twice", i), l.b, 9, slices.Insert(slices.Clone(signers), i, signers[i])...)
		for _, other := range append(from(-1, 9), 16, 100) {
			if other != signers[i] {
				put := slices.Clone(signers)
				put[i] = other
				remake(fmt.Sprintf("vote %d of %d", i, other), l.b, 9, put...)
			}
		}
		for k := range i {
			put := slices.Clone(signers)
			put[i], put[k] = put[k], put[i]
			remake(fmt.Sprintf("votes %d and %d swapped", k, i), l.b, 9, put...)
		}
	}
	for _, more := range []int{l.order[p], 0, 4, 5, 7} {
		remake(fmt.Sprintf("a vote of %d more", more), l.b, 9, append(slices.Clone(signers), more)...)
		remake(fmt.Sprintf("a vote of %d ahead", more), l.b, 9, append([]int{more}, signers...)...)
	}
	for i := range signers {
		sigs := map[string][]byte{"no Sig": nil, "a Sig for another": votes(kind, l.b, 9, body(zero), signers[i])[0].Sig, "a Sig at another slot": votes(kind, l.b, 10, body(r), signers[i])[0].Sig, "a Sig of a lower ballot": votes(kind, b00, 9, body(r), signers[i])[0].Sig, "a Sig of another kind": votes(5-kind, l.b, 9, body(r), signers[i])[0].Sig, "another's Sig": votes(kind, l.b, 9, body(r), signers[i]+1)[0].Sig}
		for _, at := range []int{0, 17, 31} {
			sigs[fmt.Sprint("byte turned ", at)] = slices.Clone(right().Votes[i].Sig)
			sigs[fmt.Sprint("byte turned ", at)][at] ^= 4
		}
		for what, sig := range sigs {
			m := right()
			m.Votes[i].Sig = sig
			wrong[fmt.Sprintf("vote %d with %s", i, what)] = m
		}
	}
	for what, change := range map[string]func(m *api.Msg){
		"a View alone": func(m *api.Msg) { m.Ballot.View++ }, "a Turn alone": func(m *api.Msg) { m.Ballot.Turn-- }, "a Slot alone": func(m *api.Msg) { m.Slot = 10 }, "a Req alone": func(m *api.Msg) { m.Req = put(3, 9) }, "its Stamp alone": func(m *api.Msg) { m.Req.Stamp = 10 }, "its Sig alone": func(m *api.Msg) { m.Req.Sig = put(3, 9).Sig },
	} {
		m := right()
		change(&m)
		wrong[what] = m
	}
	return wrong
}

func TestDownWithOthersFields(t *testing.T) { // P21.5: a KChain's own fields count alone
	l := links()[0]
	m := l.down(1, 1, put(1, 1))
	want := l.goesDown(1, 1, put(1, 1), true)
	m.From, m.To, m.Index, m.Count, m.Other, m.Data, m.Sig, m.Cert, m.Order, m.Picks, m.Reports = 1, 2, 3, 4, put(1, 1), []byte("data"), []byte("sig"), m.Votes, []int{0}, []api.Req{zero}, []api.Report{{}}
	takes(t, "other fields", l.at(t, 1), m, l.votes(1, 1, put(1, 1)), want...)
}

func TestPreparedAtTheEnd(t *testing.T) { // P21.5: at the last place what is voted for is acknowledged: not, if another is prepared in this ballot
	l := links()[0]
	c := core(t, 4, 2, prepared(b00, 1, put(2, 2), nil), prepared(b00, 2, put(1, 2), cert(4, chainKind, b00, 2, put(1, 2))))
	takes(t, "another is prepared", c, l.down(1, 2, put(1, 1)), func(s *api.Core) { atVote(s, 1, b00, put(1, 1)) }, kept(voted(b00, 1, put(1, 1))))
	refuses(t, "another is prepared, again", c, l.down(1, 2, put(1, 1)))
	// The votes that show it first stay, those that came now go on.
	takes(t, "the same is prepared", c, l.down(2, 2, put(1, 2)), func(s *api.Core) { atVote(s, 2, b00, put(1, 2)) }, kept(voted(b00, 2, put(1, 2))), l.goesUp(2, 2, put(1, 2), false)[0])
	c = core(t, 4, 2, prepared(b00, 1, put(2, 2), nil), enter(api.Ballot{View: 4}, 0, from(0, 4)))
	l.b = api.Ballot{View: 4}
	takes(t, "another is prepared in another ballot", c, l.down(1, 2, put(1, 1)), l.votes(1, 2, put(1, 1)), l.goesDown(1, 2, put(1, 1), true)...)
}
