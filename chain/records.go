package chain

import (
	"bytes"
	"slices"

	"catenary/api"
	"catenary/ballot"
	"catenary/clone"
	"catenary/session"
	"catenary/snap"
	"catenary/vote"
)

// Redo: what some records say is done.
func (c *Core) Redo(records ...api.Msg) {
	for _, m := range records {
		c.change(m)
		// What came of the slots was told when the record was new.
		c.do()
	}
}

// Records: records that make a new replica this one.
func (c *Core) Records() []api.Msg {
	var records []api.Msg
	if low := c.Low(); low > 0 {
		records = append(records, saveRecord(low, c.states[low], c.stable))
	}
	records = append(records, api.Msg{Kind: api.KPromise, Ballot: c.ballot})
	if c.active {
		records = append(records, enterRecord(c.ballot, c.base, c.order, c.picks))
	}
	for _, slot := range c.Slots() {
		records = append(records, slotRecords(slot, c.At(slot))...)
	}
	for i, m := range records {
		records[i] = clone.Msg(m)
	}
	return records
}

// Promise: no lower ballot any more.
func (c *Core) Promise(b api.Ballot) []api.Act {
	if !c.isAbove(b) || !mayBegin(b) {
		return nil
	}
	return []api.Act{c.record(api.Msg{Kind: api.KPromise, Ballot: b})}
}

// Enter: a ballot begins.
func (c *Core) Enter(b api.Ballot, base int, order []int, picks ...api.Req) []api.Act {
	m := enterRecord(b, base, order, picks)
	if c.active && c.ballot == b || !mayBegin(b) || !c.mayEnter(m) {
		return nil
	}
	acts := []api.Act{c.record(m)}
	if !c.leads() {
		return acts
	}
	for i, r := range picks {
		if slot := base + 1 + i; c.In(slot) {
			acts = append(acts, c.voteFor(slot, r, nil)...)
		}
	}
	for _, r := range c.waiting() {
		acts = append(acts, c.propose(r)...)
	}
	return acts
}

// Save: a state is stable.
func (c *Core) Save(slot int, data []byte, cert []api.Vote) []api.Act {
	m := saveRecord(slot, data, cert)
	if _, ok := c.saved(m); !ok {
		return nil
	}
	if own, has := c.StateAt(slot); c.app.Slot >= slot && !(has && bytes.Equal(own, data)) {
		return nil
	}
	return append([]api.Act{c.record(m)}, c.do()...)
}

// change: the state becomes what a record says, if it may; slots aren't done yet.
func (c *Core) change(m api.Msg) {
	switch m.Kind {
	case api.KPromise:
		if c.isAbove(m.Ballot) {
			c.ballot, c.active, c.base, c.order, c.picks = m.Ballot, false, 0, nil, nil
		}
	case api.KEnter:
		if c.mayEnter(m) {
			c.ballot, c.active, c.base, c.order, c.picks = m.Ballot, true, m.Slot, slices.Clone(m.Order), clone.Reqs(m.Picks)
		}
	case api.KVote:
		c.Vote(m.Ballot, m.Slot, m.Req)
	case api.KPrep:
		c.Prep(m.Ballot, m.Slot, m.Req, m.Cert...)
	case api.KDone:
		c.Done(m.Ballot, m.Slot, m.Req, m.Votes...)
	case api.KSave:
		if a, ok := c.saved(m); ok {
			c.save(m, a)
		}
	}
}

// isAbove: is a ballot above that which was promised?
func (c *Core) isAbove(b api.Ballot) bool { return ballot.Compare(b, c.ballot) > 0 }

// mayEnter: may a ballot begin as a record says?
func (c *Core) mayEnter(m api.Msg) bool {
	return ballot.Compare(m.Ballot, c.ballot) >= 0 && 0 <= m.Slot && m.Slot <= api.MaxSlot &&
		ballot.Order(m.Order, c.n) && m.Order[0] == ballot.Head(m.Ballot, c.n) &&
		len(m.Picks) <= api.Window && !slices.ContainsFunc(m.Picks, mayNotBePicked)
}

// mayNotBePicked: is a request neither the zero one nor one that may be done?
func mayNotBePicked(r api.Req) bool { return !same(r, api.Req{}) && !good(r) }

// saved: the state that a record says is stable; false, if it may not become that.
func (c *Core) saved(m api.Msg) (api.App, bool) {
	a, e := snap.Decode(m.Data)
	if m.Slot <= c.Low() || e != api.OK || a.Slot != m.Slot ||
		!vote.Cert(api.KCheck, api.Ballot{}, m.Slot, snap.Digest(m.Data), m.Cert, c.n) {
		return api.App{}, false
	}
	return a, true
}

// save: a state is stable from now on, a; who isn't there yet goes on from it.
func (c *Core) save(m api.Msg, a api.App) {
	if c.app.Slot < m.Slot {
		c.app = a
		for client := range c.pending {
			stamp, _ := session.Last(a, client)
			c.forget(client, stamp)
		}
	}
	c.Cut(m.Slot)
	c.stable = clone.Votes(m.Cert)
	for slot := range c.states {
		if slot < m.Slot {
			delete(c.states, slot)
		}
	}
	c.states[m.Slot] = bytes.Clone(m.Data)
}

// forget: a client's request doesn't wait any more, if its Stamp isn't above this one.
func (c *Core) forget(client, stamp int) {
	if c.pending[client].Stamp <= stamp {
		delete(c.pending, client)
	}
}

func enterRecord(b api.Ballot, base int, order []int, picks []api.Req) api.Msg {
	return api.Msg{Kind: api.KEnter, Ballot: b, Slot: base, Order: order, Picks: picks}
}

func saveRecord(slot int, data []byte, cert []api.Vote) api.Msg {
	return api.Msg{Kind: api.KSave, Slot: slot, Data: data, Cert: cert}
}

// slotRecords: records of what is known of a slot.
func slotRecords(slot int, s api.Slot) []api.Msg {
	var records []api.Msg
	if s.HasVote {
		records = append(records, api.Msg{Kind: api.KVote, Ballot: s.Voted, Slot: slot, Req: s.Vote})
	}
	if s.HasPrep {
		records = append(records, api.Msg{Kind: api.KPrep, Ballot: s.Prepared, Slot: slot, Req: s.Prep, Cert: s.Cert})
	}
	if s.HasDone {
		records = append(records, api.Msg{Kind: api.KDone, Ballot: s.Ballot, Slot: slot, Req: s.Done, Votes: s.Votes})
	}
	return records
}
