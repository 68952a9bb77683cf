package chain

import (
	"catenary/api"
	"catenary/octet"
	"catenary/session"
	"catenary/snap"
	"catenary/vote"
)

// do: the slots that can be done are done, in their order; what is to be told of them.
func (c *Core) do() []api.Act {
	var acts []api.Act
	for c.app.Slot < api.MaxSlot {
		next := c.At(c.app.Slot + 1)
		if !next.HasDone {
			break
		}
		acts = append(acts, c.doNext(next.Done)...)
	}
	return acts
}

// doNext: a request is done at the next slot.
func (c *Core) doNext(r api.Req) []api.Act {
	var result api.Result
	c.app, result, _ = session.Apply(c.app, r)
	c.forget(r.Client, r.Stamp)
	acts := c.reply(r.Client, r.Stamp, result)
	if c.app.Slot%api.Period == 0 {
		acts = append(acts, c.checkpoint()...)
	}
	return acts
}

// reply: what came of a client's request, for the client.
func (c *Core) reply(client, stamp int, result api.Result) []api.Act {
	if client < 1 || client > api.MaxClients || result.Code == api.Old {
		return nil
	}
	// What comes of a request has a Code that can be written.
	code, _ := octet.Int(result.Code)
	m := api.Msg{Kind: api.KReply, From: c.me, To: client, Index: stamp, Data: append(code, octet.Bytes(result.Value)...)}
	return []api.Act{send(firstClient+client, vote.Seal(m, c.me))}
}

// checkpoint: its vote for its state, for all.
func (c *Core) checkpoint() []api.Act {
	slot := c.app.Slot
	// Its state is Right at all times, so it has bytes.
	state, _ := snap.Encode(c.app)
	c.states[slot] = state
	digest := snap.Digest(state)
	mine := vote.Make(api.KCheck, api.Ballot{}, slot, digest, c.me)
	var acts []api.Act
	for to := range c.n {
		acts = append(acts, send(to, api.Msg{Kind: api.KCheck, Slot: slot, Data: digest, Votes: []api.Vote{mine}}))
	}
	return acts
}
