package chain

import (
	"maps"
	"slices"

	"catenary/api"
)

// model is a replica as the chapter tells it, sentence by sentence; its core's Numbers, Slots and Pending are made when they are asked for.
type model struct {
	n, me   int
	core    api.Core
	slots   map[int]api.Slot
	pending map[int]api.Req
	// did has the state behind each slot that it did.
	did map[int]api.App
}

func newModel(n, me int) *model {
	return &model{n, me, api.Core{Active: true, Order: from(0, n)}, map[int]api.Slot{}, map[int]api.Req{}, map[int]api.App{}}
}

// state is P21.1's State.
func (m *model) state() api.Core {
	s := m.core
	for _, slot := range slices.Sorted(maps.Keys(m.slots)) {
		s.Numbers, s.Slots = append(s.Numbers, slot), append(s.Slots, m.slots[slot])
	}
	for client := 1; client <= 4; client++ {
		if r, has := m.pending[client]; has {
			s.Pending = append(s.Pending, r)
		}
	}
	return s
}

// stateAt is P21.1's StateAt.
func (m *model) stateAt(slot int) ([]byte, bool) {
	if slot == m.core.Low && slot > 0 {
		return m.core.Data, true
	}
	if a, has := m.did[slot]; has && slot%4 == 0 && slot > m.core.Low {
		return spell(a), true
	}
	return nil, false
}

func (m *model) p() int { return placeOf(m.core.Order, m.me) }

func (m *model) in(slot int) bool { return slot > m.core.Low && slot-m.core.Low <= 16 }

func lower(a, b api.Ballot) bool { return a.View < b.View || a.View == b.View && a.Turn < b.Turn }

// good tells whether a request is GOOD: no others are drawn than those that clients asked.
func (m *model) good(r api.Req) bool {
	for _, other := range drawable {
		if equal(r, other) {
			return true
		}
	}
	return false
}

// shows tells whether votes are a certificate.
func (m *model) shows(kind int, b api.Ballot, slot int, body []byte, list []api.Vote) bool {
	last := -1
	for _, v := range list {
		if v.Signer <= last || v.Signer >= m.n || !equal([]api.Vote{v}, votes(kind, b, slot, body, v.Signer)) {
			return false
		}
		last = v.Signer
	}
	return len(list) == quorum(m.n)
}

// record is what P21.2 says of one; did it change the state?
func (m *model) record(x api.Msg) bool {
	c := &m.core
	s := m.slots[x.Slot]
	switch x.Kind {
	case promiseKind:
		if !lower(c.Ballot, x.Ballot) {
			return false
		}
		c.Ballot, c.Active, c.Base, c.Order, c.Picks = x.Ballot, false, 0, nil, nil
		return true
	case enterKind:
		if lower(x.Ballot, c.Ballot) || x.Slot < 0 || x.Slot > mostSlot || !equal(slices.Sorted(slices.Values(x.Order)), from(0, m.n)) || x.Order[0] != x.Ballot.View%m.n || len(x.Picks) > 16 {
			return false
		}
		for _, r := range x.Picks {
			if !equal(r, zero) && !m.good(r) {
				return false
			}
		}
		c.Ballot, c.Active, c.Base, c.Order, c.Picks = x.Ballot, true, x.Slot, x.Order, x.Picks
		return true
	case voteKind:
		if !m.in(x.Slot) || s.HasVote && (lower(x.Ballot, s.Voted) || x.Ballot == s.Voted && !equal(x.Req, s.Vote)) {
			return false
		}
		s.HasVote, s.Voted, s.Vote = true, x.Ballot, x.Req
	case prepKind:
		if !m.in(x.Slot) || s.HasPrep && (lower(x.Ballot, s.Prepared) || x.Ballot == s.Prepared && !equal(x.Req, s.Prep)) {
			return false
		}
		s.HasPrep, s.Prepared, s.Prep, s.Cert = true, x.Ballot, x.Req, x.Cert
	case doneKind:
		if !m.in(x.Slot) || s.HasDone {
			return false
		}
		s.HasDone, s.Ballot, s.Done, s.Votes = true, x.Ballot, x.Req, x.Votes
	case saveKind:
		return m.save(x)
	default:
		return false
	}
	m.slots[x.Slot] = s
	return true
}

// save is what P21.2 says of a KSave; all states that are drawn are of stateAt.
func (m *model) save(x api.Msg) bool {
	var a api.App
	for _, known := range append([]api.App{stateAt(x.Slot), {Slot: x.Slot}}, slices.Collect(maps.Values(m.did))...) {
		if known.Slot == x.Slot && equal(x.Data, spell(known)) {
			a = known
		}
	}
	if x.Slot <= m.core.Low || a.Slot != x.Slot || !m.shows(checkKind, b00, x.Slot, digest(x.Data), x.Cert) {
		return false
	}
	if m.core.App.Slot < x.Slot {
		m.core.App = a
		for _, s := range a.Sessions {
			if r, has := m.pending[s.Client]; has && r.Stamp <= s.Stamp {
				delete(m.pending, s.Client)
			}
		}
	}
	m.core.Low, m.core.Data, m.core.Stable = x.Slot, x.Data, x.Cert
	for slot := range m.slots {
		if !m.in(slot) {
			delete(m.slots, slot)
		}
	}
	return true
}

// doing is P21.3.
func (m *model) doing() []api.Act {
	var out []api.Act
	for m.slots[m.core.App.Slot+1].HasDone && m.core.App.Slot < mostSlot {
		r := m.slots[m.core.App.Slot+1].Done
		stamp := sessionOf(m.core.App, r.Client).Stamp
		m.core.App = after(m.core.App, r)
		m.did[m.core.App.Slot] = m.core.App
		if other, has := m.pending[r.Client]; has && other.Stamp <= r.Stamp {
			delete(m.pending, r.Client)
		}
		s := sessionOf(m.core.App, r.Client)
		switch {
		case r.Client < 1 || r.Client > 4:
		case r.Stamp < 1 || r.Stamp > greatest:
			out = append(out, reply(m.me, r, bad, ""))
		case r.Stamp >= stamp && s.Result.Code != old:
			out = append(out, reply(m.me, r, s.Result.Code, string(s.Result.Value)))
		}
		if m.core.App.Slot%4 == 0 {
			out = append(out, checks(m.n, m.me, m.core.App)...)
		}
	}
	return out
}

func sessionOf(a api.App, client int) api.Session {
	for _, s := range a.Sessions {
		if s.Client == client {
			return s
		}
	}
	return api.Session{}
}

// redo is P21.2's Redo.
func (m *model) redo(x api.Msg) []api.Act {
	m.record(x)
	m.doing()
	return nil
}

// ask is P21.4's Ask.
func (m *model) ask(r api.Req) []api.Act {
	s := sessionOf(m.core.App, r.Client)
	switch {
	case !m.good(r) || r.Stamp < s.Stamp:
		return nil
	case r.Stamp == s.Stamp && s.Result.Code == old:
		return nil
	case r.Stamp == s.Stamp:
		return []api.Act{reply(m.me, r, s.Result.Code, string(s.Result.Value))}
	}
	if other, has := m.pending[r.Client]; !has || other.Stamp < r.Stamp {
		m.pending[r.Client] = r
	}
	if m.core.Active && m.p() == 0 {
		return m.proposed(r)
	}
	return nil
}

// proposed is P21.4's.
func (m *model) proposed(r api.Req) []api.Act {
	next := max(m.core.Low, m.core.Base+len(m.core.Picks))
	for _, slot := range slices.Sorted(maps.Keys(m.slots)) {
		s := m.slots[slot]
		if !s.HasVote || s.Voted != m.core.Ballot {
			continue
		}
		if s.Vote.Client == r.Client && s.Vote.Stamp == r.Stamp && s.HasDone {
			return nil
		}
		if s.Vote.Client == r.Client && s.Vote.Stamp == r.Stamp {
			return []api.Act{sent(m.core.Order[1], down(m.core.Ballot, slot, s.Vote, m.me))}
		}
		next = max(next, slot)
	}
	if !m.in(next + 1) {
		return nil
	}
	return m.voted(next+1, r, nil)
}

// voted is P21.5's.
func (m *model) voted(slot int, r api.Req, ahead []api.Vote) []api.Act {
	var out []api.Act
	b, s := m.core.Ballot, m.slots[slot]
	if s.HasVote && s.Voted == b {
		if !equal(s.Vote, r) {
			return nil
		}
	} else {
		x := voted(b, slot, r)
		m.record(x)
		out = append(out, kept(x))
	}
	list := slices.Concat(ahead, votes(chainKind, b, slot, body(r), m.me))
	if p := m.p(); p < quorum(m.n)-1 {
		return append(out, sent(m.core.Order[p+1], api.Msg{Kind: chainKind, Ballot: b, Slot: slot, Req: r, Votes: list}))
	}
	slices.SortFunc(list, func(a, b api.Vote) int { return a.Signer - b.Signer })
	return append(out, m.acknowledged(slot, r, list, nil)...)
}

// acknowledged is P21.6's.
func (m *model) acknowledged(slot int, r api.Req, cert, behind []api.Vote) []api.Act {
	var out []api.Act
	b, s := m.core.Ballot, m.slots[slot]
	if s.HasPrep && s.Prepared == b {
		if !equal(s.Prep, r) {
			return nil
		}
	} else {
		x := prepared(b, slot, r, cert)
		m.record(x)
		out = append(out, kept(x))
	}
	list := slices.Concat(behind, votes(ackKind, b, slot, body(r), m.me))
	if p := m.p(); p > 0 {
		return append(out, sent(m.core.Order[p-1], api.Msg{Kind: ackKind, Ballot: b, Slot: slot, Req: r, Cert: cert, Votes: list}))
	}
	slices.SortFunc(list, func(a, b api.Vote) int { return a.Signer - b.Signer })
	if s := m.slots[slot]; s.HasDone && !equal(s.Done, r) {
		return out
	} else if !s.HasDone {
		x := done(b, slot, r, list)
		m.record(x)
		out = append(out, kept(x))
	}
	out = append(out, others(m.n, m.me, api.Msg{Kind: commitKind, Ballot: b, Slot: slot, Req: r, Votes: list})...)
	return append(out, m.doing()...)
}

// take is P21.5, P21.6 and P21.7's Take.
func (m *model) take(x api.Msg) []api.Act {
	c, p, q := m.core, m.p(), quorum(m.n)
	here := c.Active && x.Ballot == c.Ballot && x.Slot > c.Base && m.in(x.Slot)
	switch x.Kind {
	case chainKind:
		if !here || p < 1 || p > q-1 || !equal(x.Votes, votes(chainKind, x.Ballot, x.Slot, body(x.Req), c.Order[:p]...)) {
			return nil
		}
		if x.Slot <= c.Base+len(c.Picks) && !equal(x.Req, c.Picks[x.Slot-c.Base-1]) || x.Slot > c.Base+len(c.Picks) && !m.good(x.Req) {
			return nil
		}
		return m.voted(x.Slot, x.Req, x.Votes)
	case ackKind:
		if !here || p < 0 || p > q-2 || !m.shows(chainKind, x.Ballot, x.Slot, body(x.Req), x.Cert) {
			return nil
		}
		var behind []int
		for place := q - 1; place > p; place-- {
			behind = append(behind, c.Order[place])
		}
		if !equal(x.Votes, votes(ackKind, x.Ballot, x.Slot, body(x.Req), behind...)) {
			return nil
		}
		return m.acknowledged(x.Slot, x.Req, x.Cert, x.Votes)
	case commitKind:
		if !m.in(x.Slot) || !m.shows(ackKind, x.Ballot, x.Slot, body(x.Req), x.Votes) || m.slots[x.Slot].HasDone {
			return nil
		}
		y := done(x.Ballot, x.Slot, x.Req, x.Votes)
		m.record(y)
		return append([]api.Act{kept(y)}, m.doing()...)
	}
	return nil
}

func begins(b api.Ballot) bool {
	return b.View >= 0 && b.View <= mostView && b.Turn >= 0 && b.Turn <= mostView
}

// promise is P21.8's Promise.
func (m *model) promise(b api.Ballot) []api.Act {
	if !begins(b) || !m.record(promise(b)) {
		return nil
	}
	return []api.Act{kept(promise(b))}
}

// enter is P21.8's Enter.
func (m *model) enter(x api.Msg) []api.Act {
	if m.core.Active && m.core.Ballot == x.Ballot || !begins(x.Ballot) || !m.record(x) {
		return nil
	}
	out := []api.Act{kept(x)}
	if m.p() != 0 {
		return out
	}
	for i, r := range x.Picks {
		if m.in(x.Slot + 1 + i) {
			out = append(out, m.voted(x.Slot+1+i, r, nil)...)
		}
	}
	for _, r := range m.state().Pending {
		out = append(out, m.proposed(r)...)
	}
	return out
}

// saved is P21.8's Save.
func (m *model) saved(x api.Msg) []api.Act {
	if own, has := m.stateAt(x.Slot); m.core.App.Slot >= x.Slot && !(has && equal(own, x.Data)) || !m.record(x) {
		return nil
	}
	return append([]api.Act{kept(x)}, m.doing()...)
}
