package chain

import (
	"fmt"
	"math/rand"
	"reflect"
	"slices"
	"testing"

	"catenary/api"
)

// drawable are few requests, so that many of them meet.
var drawable = drawnRequests()

func drawnRequests() []api.Req {
	var out []api.Req
	for client := 1; client <= 4; client++ {
		for _, stamp := range []int{1, 2, 3, 5, 6, 8} {
			out = append(out, put(client, stamp), get(client, stamp))
		}
	}
	return out
}

// player draws calls for a replica and its model.
type player struct {
	*rand.Rand
	m *model
}

func (d player) oneIn(n int) bool { return d.Intn(n) == 0 }

// request is one of a few, now and then one that isn't GOOD.
func (d player) request() api.Req {
	r := drawable[d.Intn(len(drawable))]
	switch d.Intn(24) {
	case 0:
		return zero
	case 1:
		r.Stamp++
	case 2:
		return api.Req{Client: d.Intn(7) - 1, Stamp: d.Intn(4) - 1}
	}
	return r
}

// stands is the request that may stand at a slot, or is known there; now and then another.
func (d player) stands(slot int) api.Req {
	s, c := d.m.slots[slot], d.m.core
	switch i := slot - c.Base - 1; {
	case d.oneIn(8):
	case i >= 0 && i < len(c.Picks):
		return c.Picks[i]
	case s.HasVote && d.oneIn(2):
		return s.Vote
	case s.HasPrep && d.oneIn(2):
		return s.Prep
	case s.HasDone:
		return s.Done
	}
	return d.request()
}

// slot is one that is open, most often, and near the last that was done.
func (d player) slot() int {
	if d.oneIn(3) {
		return d.m.core.App.Slot + 1
	}
	return d.m.core.Low + d.Intn(19) - 1
}

// ballot is the own one or one about it.
func (d player) ballot() api.Ballot {
	b := d.m.core.Ballot
	switch d.Intn(6) {
	case 0:
		b.Turn += d.Intn(3) - 1
	case 1:
		b = api.Ballot{View: b.View + d.Intn(3) - 1, Turn: d.Intn(2)}
	}
	return b
}

// signers are those that a message needs, now and then not just these.
func (d player) signers(all []int) []int {
	out := slices.Clone(all)
	if len(out) > 0 && d.oneIn(12) {
		out[d.Intn(len(out))] = d.Intn(d.m.n)
	}
	return out
}

// some are a quorum's numbers, rising.
func (d player) some() []int { return slices.Sorted(slices.Values(d.Perm(d.m.n)[:quorum(d.m.n)])) }

// message is one of the chain that fits the replica, but for one thing now and then.
func (d player) message() api.Msg {
	c, q := d.m.core, quorum(d.m.n)
	p, order, slot, b := d.m.p(), c.Order, d.slot(), c.Ballot
	if len(order) == 0 {
		order, p = from(0, d.m.n), d.Intn(q)
	}
	if d.oneIn(6) {
		b = d.ballot()
	}
	r := d.stands(slot)
	switch kind := d.Intn(7); {
	case kind < 3 && p > 0:
		return down(b, slot, r, d.signers(order[:min(p, q-1)])...)
	case kind < 6 && p < q-1:
		var behind []int
		for place := q - 1; place > p; place-- {
			behind = append(behind, order[place])
		}
		return up(b, slot, r, votes(chainKind, b, slot, body(r), d.signers(d.some())...), d.signers(behind)...)
	}
	return commits(d.ballot(), slot, r, d.signers(d.some())...)
}

// enter is a ballot that may be entered, most often.
func (d player) enter() api.Msg {
	b := d.ballot()
	if d.oneIn(2) {
		b.Turn++
	}
	head := ((b.View % d.m.n) + d.m.n) % d.m.n
	if d.oneIn(2) {
		// So it leads more often.
		b.View += (d.m.me - head + d.m.n) % d.m.n
		head = d.m.me
	}
	order := around(head, d.m.n)
	d.Shuffle(d.m.n-1, func(i, k int) { order[i+1], order[k+1] = order[k+1], order[i+1] })
	if d.oneIn(9) {
		order[d.Intn(len(order))] = d.Intn(d.m.n)
	}
	m := enter(b, max(0, d.m.core.Low+d.Intn(5)-3), order)
	for range d.Intn(4) {
		m.Picks = append(m.Picks, d.stands(m.Slot+1+len(m.Picks)))
	}
	return m
}

// save is of a state that it did, or another.
func (d player) save() api.Msg {
	slot := d.m.core.Low + d.Intn(9)
	if d.oneIn(2) {
		slot = d.m.core.App.Slot/4*4 - 4*d.Intn(2)
	}
	a := api.App{Slot: slot}
	if did, has := d.m.did[slot]; has && !d.oneIn(8) {
		a = did
	} else if d.oneIn(2) {
		a = stateAt(slot)
	}
	data := spell(a)
	return api.Msg{Kind: saveKind, Slot: slot, Data: data, Cert: votes(checkKind, b00, slot, digest(data), d.signers(d.some())...)}
}

// slotRecord is one of a slot.
func (d player) slotRecord() api.Msg {
	b, slot := d.ballot(), d.slot()
	r := d.stands(slot)
	switch d.Intn(3) {
	case 0:
		return voted(b, slot, r)
	case 1:
		return prepared(b, slot, r, votes(chainKind, b, slot, body(r), d.some()...))
	}
	return done(b, slot, r, votes(ackKind, b, slot, body(r), d.some()...))
}

// play draws a call, does it to both, and tells what it was and what both told.
func (d player) play(c *Core) (string, []api.Act, []api.Act) {
	switch d.Intn(20) {
	case 0, 1, 2, 3, 4:
		r := d.request()
		return fmt.Sprintf("Ask of %d, %d", r.Client, r.Stamp), c.Ask(r), d.m.ask(r)
	case 5:
		if b := d.ballot(); d.oneIn(2) {
			return fmt.Sprintf("Promise of %v", b), c.Promise(b), d.m.promise(b)
		}
		x := promise(d.ballot())
		c.Redo(x)
		return fmt.Sprintf("KPromise of %v", x.Ballot), nil, d.m.redo(x)
	case 6:
		x := d.enter()
		return fmt.Sprintf("Enter of %v at %d with %v", x.Ballot, x.Slot, x.Order), c.Enter(x.Ballot, x.Slot, x.Order, x.Picks...), d.m.enter(x)
	case 7:
		x := d.save()
		return fmt.Sprintf("Save of %d", x.Slot), c.Save(x.Slot, x.Data, x.Cert), d.m.saved(x)
	case 8:
		x := []api.Msg{d.slotRecord(), d.slotRecord(), d.slotRecord(), d.enter(), d.save()}[d.Intn(5)]
		c.Redo(x)
		return fmt.Sprintf("Redo of kind %d of %v at %d", x.Kind, x.Ballot, x.Slot), nil, d.m.redo(x)
	}
	x := d.message()
	return fmt.Sprintf("Take of kind %d in %v at %d", x.Kind, x.Ballot, x.Slot), c.Take(x), d.m.take(x)
}

func TestDrawnCalls(t *testing.T) { // P21.1 to P21.8: as the model; and its records make it anew
	told, saved, again := map[string]int{}, 0, 0
	for seed := range int64(200) {
		draw := rand.New(rand.NewSource(seed))
		n := rightNs[min(draw.Intn(4), draw.Intn(4))]
		me := draw.Intn(n)
		c, d := core(t, n, me), player{draw, newModel(n, me)}
		for i := range 80 {
			name, got, want := d.play(c)
			what := fmt.Sprintf("seed %d, call %d of replica %d of %d: %s", seed, i, me, n, name)
			tells(t, what, got, want...)
			if at := differs("State", reflect.ValueOf(c.State()), reflect.ValueOf(d.m.state())); at != "" {
				t.Fatalf("%s: %s", what, at)
			}
			for slot := d.m.core.Low - 5; slot <= d.m.core.Low+20; slot++ {
				got, has := c.StateAt(slot)
				if want, is := d.m.stateAt(slot); !equal(got, want) || has != is {
					t.Fatalf("%s: StateAt(%d) is %v, %v; want %v, %v", what, slot, got, has, want, is)
				}
			}
			for _, a := range got {
				told[fmt.Sprint(a.Msg.Kind)]++
			}
			told[fmt.Sprint("acts ", min(len(got), 9))]++
		}
		if d.m.core.Low > 0 {
			saved++
		}
		// Where records told of another state than it did, its own isn't among them.
		if a, has := d.m.did[d.m.core.Low]; !has || equal(spell(a), d.m.core.Data) {
			remade(t, fmt.Sprint("behind seed ", seed), n, me, c)
			again++
		}
	}
	for what, least := range map[string]int{
		"2": 1000, "3": 300, "4": 8000, "5": 1000, "10": 2000, "20": 25, "21": 200, "22": 1000, "23": 1500, "24": 1500, "25": 150,
		"acts 0": 5000, "acts 1": 1000, "acts 2": 1000, "acts 3": 200, "acts 4": 100, "acts 5": 300, "acts 6": 200, "acts 7": 100, "acts 8": 200, "acts 9": 500,
	} {
		if told[what] < least {
			t.Errorf("%s: %d times; want at least %d", what, told[what], least)
		}
	}
	if saved < 100 || again < 100 {
		t.Errorf("%d replicas have a Low, %d were made anew", saved, again)
	}
}
