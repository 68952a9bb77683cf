package chain

import (
	"slices"

	"catenary/api"
	"catenary/clone"
	"catenary/msg"
	"catenary/session"
	"catenary/vote"
)

// Ask: a client's request.
func (c *Core) Ask(r api.Req) []api.Act {
	if !good(r) {
		return nil
	}
	stamp, result := session.Last(c.app, r.Client)
	if r.Stamp == stamp {
		return c.reply(r.Client, stamp, result)
	}
	if r.Stamp < stamp {
		return nil
	}
	// One that doesn't wait has a Stamp of 0, which is below all that are asked.
	if c.pending[r.Client].Stamp < r.Stamp {
		c.pending[r.Client] = clone.Req(r)
	}
	if !c.leads() {
		return nil
	}
	return c.propose(r)
}

// Take: a message of the chain.
func (c *Core) Take(m api.Msg) []api.Act {
	switch {
	case m.Kind == api.KChain && c.mayGoDown(m):
		return c.voteFor(m.Slot, m.Req, m.Votes)
	case m.Kind == api.KAck && c.mayGoUp(m):
		return c.acknowledge(m.Slot, m.Req, m.Cert, m.Votes)
	case m.Kind == api.KCommit && c.isCommitted(m):
		acts := []api.Act{c.record(doneRecord(m.Ballot, m.Slot, m.Req, m.Votes))}
		return append(acts, c.do()...)
	}
	return nil
}

// propose: a request is proposed at the next slot; again, if it was in this ballot.
func (c *Core) propose(r api.Req) []api.Act {
	last := max(c.Low(), c.base+len(c.picks))
	for _, slot := range c.Slots() {
		s := c.At(slot)
		if !c.votedFor(s) {
			continue
		}
		if s.Vote.Client != r.Client || s.Vote.Stamp != r.Stamp {
			last = max(last, slot)
			continue
		}
		if s.HasDone {
			return nil
		}
		return c.voteFor(slot, s.Vote, nil)
	}
	if !c.In(last + 1) {
		return nil
	}
	return c.voteFor(last+1, r, nil)
}

// voteFor: a request at a slot gets the own vote behind those of the places ahead, and goes on down the chain; at its end it is prepared.
func (c *Core) voteFor(slot int, r api.Req, ahead []api.Vote) []api.Act {
	var acts []api.Act
	if s := c.At(slot); !c.votedFor(s) {
		acts = append(acts, c.record(api.Msg{Kind: api.KVote, Ballot: c.ballot, Slot: slot, Req: r}))
	} else if !same(s.Vote, r) {
		return nil
	}
	votes := c.withMine(api.KChain, slot, r, ahead)
	p := c.place()
	if p == c.end() {
		return append(acts, c.acknowledge(slot, r, vote.Sort(votes...), nil)...)
	}
	return append(acts, send(c.order[p+1], api.Msg{Kind: api.KChain, Ballot: c.ballot, Slot: slot, Req: r, Votes: votes}))
}

// acknowledge: a request that is prepared at a slot gets the own vote behind those of the places behind, and goes on up the chain; at its head it is committed.
func (c *Core) acknowledge(slot int, r api.Req, cert, behind []api.Vote) []api.Act {
	var acts []api.Act
	if s := c.At(slot); !s.HasPrep || s.Prepared != c.ballot {
		acts = append(acts, c.record(api.Msg{Kind: api.KPrep, Ballot: c.ballot, Slot: slot, Req: r, Cert: cert}))
	} else if !same(s.Prep, r) {
		return nil
	}
	votes := c.withMine(api.KAck, slot, r, behind)
	p := c.place()
	if p == 0 {
		return append(acts, c.commit(slot, r, vote.Sort(votes...))...)
	}
	return append(acts, send(c.order[p-1], api.Msg{Kind: api.KAck, Ballot: c.ballot, Slot: slot, Req: r, Cert: cert, Votes: votes}))
}

// commit: a request is committed at a slot, and all others are told.
func (c *Core) commit(slot int, r api.Req, votes []api.Vote) []api.Act {
	var acts []api.Act
	if s := c.At(slot); !s.HasDone {
		acts = append(acts, c.record(doneRecord(c.ballot, slot, r, votes)))
	} else if !same(s.Done, r) {
		return nil
	}
	for to := range c.n {
		if to != c.me {
			acts = append(acts, send(to, api.Msg{Kind: api.KCommit, Ballot: c.ballot, Slot: slot, Req: r, Votes: votes}))
		}
	}
	return append(acts, c.do()...)
}

// mayGoDown: is it a request that the places ahead in this chain have voted for, and that may stand at its slot?
func (c *Core) mayGoDown(m api.Msg) bool {
	p := c.place()
	return c.isHere(m) && 1 <= p && p <= c.end() && isVotedBy(m, c.order[:p]) && c.mayStand(m.Slot, m.Req)
}

// mayGoUp: is it a request that is prepared, and that the places behind in this chain have acknowledged?
func (c *Core) mayGoUp(m api.Msg) bool {
	p := c.place()
	if !c.isHere(m) || p < 0 || p >= c.end() {
		return false
	}
	behind := slices.Clone(c.order[p+1 : c.end()+1])
	slices.Reverse(behind)
	return isVotedBy(m, behind) && vote.Cert(api.KChain, m.Ballot, m.Slot, msg.Body(m.Req), m.Cert, c.n)
}

// isCommitted: is it a request that is committed at an open slot, and isn't known to be?
func (c *Core) isCommitted(m api.Msg) bool {
	return c.In(m.Slot) && !c.At(m.Slot).HasDone && vote.Cert(api.KAck, m.Ballot, m.Slot, msg.Body(m.Req), m.Votes, c.n)
}

// isHere: is it of this ballot's chain, and of a slot that is open in it?
func (c *Core) isHere(m api.Msg) bool {
	return c.active && m.Ballot == c.ballot && m.Slot > c.base && c.In(m.Slot)
}

// mayStand: may a request stand at a slot above Base? The first ones are those that the ballot goes on with.
func (c *Core) mayStand(slot int, r api.Req) bool {
	if i := slot - c.base - 1; i < len(c.picks) {
		return same(r, c.picks[i])
	}
	return good(r)
}

// votedFor: was a slot voted for in this ballot?
func (c *Core) votedFor(s api.Slot) bool { return s.HasVote && s.Voted == c.ballot }

// withMine: the votes, and the own one behind them.
func (c *Core) withMine(kind, slot int, r api.Req, votes []api.Vote) []api.Vote {
	return append(clone.Votes(votes), vote.Make(kind, c.ballot, slot, msg.Body(r), c.me))
}

// isVotedBy: are a message's votes right ones of just these, in this order?
func isVotedBy(m api.Msg, signers []int) bool {
	return slices.EqualFunc(m.Votes, signers, func(v api.Vote, signer int) bool {
		return v.Signer == signer && vote.Right(m.Kind, m.Ballot, m.Slot, msg.Body(m.Req), v)
	})
}

func doneRecord(b api.Ballot, slot int, r api.Req, votes []api.Vote) api.Msg {
	return api.Msg{Kind: api.KDone, Ballot: b, Slot: slot, Req: r, Votes: votes}
}
