package rules

import (
	"reflect"
	"strconv"
	"testing"

	"catenary/api"
	"catenary/chain"
	"catenary/kv"
	"catenary/msg"
	"catenary/snap"
	"catenary/vote"
)

// wish is a client's request for a value.
func wish(client, stamp int) api.Req {
	b, _ := kv.Write(api.Op{Kind: api.OpPut, Name: []byte("b"), A: []byte{byte(client), byte(stamp)}})
	return vote.Ask(api.Req{Client: client, Stamp: stamp, Op: b})
}

// savedState is a record of someState at a slot.
func savedState(slot int) api.Msg {
	a := someState()
	a.Slot = slot
	b, _ := snap.Encode(a)
	return api.Msg{Kind: api.KSave, Slot: slot, Data: b, Cert: quorumVotes(api.KCheck, api.Ballot{}, slot, snap.Digest(b))}
}

// entered is a record of a ballot whose head is replica 1.
func entered() api.Msg {
	return api.Msg{Kind: api.KEnter, Ballot: highBallot, Slot: 4, Order: []int{1, 2, 0, 3}, Picks: []api.Req{wish(3, 8), {}}}
}

// goneDown, goneUp and committed are messages with all the votes that they need of a chain.
func goneDown(b api.Ballot, slot int, r api.Req, signers ...int) api.Msg {
	m := api.Msg{Kind: api.KChain, Ballot: b, Slot: slot, Req: r}
	for _, s := range signers {
		m.Votes = append(m.Votes, vote.Make(api.KChain, b, slot, msg.Body(r), s))
	}
	return m
}

func goneUp(b api.Ballot, slot int, r api.Req, signers ...int) api.Msg {
	m := api.Msg{Kind: api.KAck, Ballot: b, Slot: slot, Req: r, Cert: quorumVotes(api.KChain, b, slot, msg.Body(r))}
	for _, s := range signers {
		m.Votes = append(m.Votes, vote.Make(api.KAck, b, slot, msg.Body(r), s))
	}
	return m
}

func committed(b api.Ballot, slot int, r api.Req) api.Msg {
	return api.Msg{Kind: api.KCommit, Ballot: b, Slot: slot, Req: r, Votes: quorumVotes(api.KAck, b, slot, msg.Body(r))}
}

// slotRecords are records of each kind of a slot.
func slotRecords(b api.Ballot, slot int, r api.Req) []api.Msg {
	return []api.Msg{
		{Kind: api.KVote, Ballot: b, Slot: slot, Req: r},
		{Kind: api.KPrep, Ballot: b, Slot: slot, Req: r, Cert: quorumVotes(api.KChain, b, slot, msg.Body(r))},
		{Kind: api.KDone, Ballot: b, Slot: slot, Req: r, Votes: quorumVotes(api.KAck, b, slot, msg.Body(r))},
	}
}

// cores are such ways to make a replica of 4 that each call takes all ways: at each place of a chain, in the beginning and in the midst of things, not active.
func cores() map[string]func() *chain.Core {
	out := map[string]func() *chain.Core{}
	for me := range 4 {
		start := func(records ...api.Msg) func() *chain.Core {
			return func() *chain.Core {
				c, _ := chain.New(4, me)
				c.Redo(records...)
				return c
			}
		}
		name := " replica " + strconv.Itoa(me)
		out["a new"+name] = start()
		out["a busy"+name] = func() *chain.Core {
			c := start(savedState(4), entered())()
			c.Redo(slotRecords(highBallot, 5, wish(3, 8))...)
			c.Redo(slotRecords(highBallot, 8, wish(4, 11))[:2]...)
			c.Redo(slotRecords(lowBallot, 7, wish(2, 1))...)
			c.Ask(wish(1, 6))
			c.Ask(wish(4, 11))
			return c
		}
		out["an inactive"+name] = start(savedState(8), api.Msg{Kind: api.KPromise, Ballot: reportBallot})
		out["a waiting"+name] = func() *chain.Core {
			c := start(api.Msg{Kind: api.KPromise, Ballot: lowBallot})()
			c.Ask(wish(2, 1))
			c.Redo(slotRecords(lowBallot, 2, wish(1, 6))...)
			c.Redo(slotRecords(lowBallot, 3, wish(1, 7))...)
			c.Redo(slotRecords(lowBallot, 4, wish(3, 8))...)
			return c
		}
	}
	return out
}

// toldBy is all that a replica tells when it is asked.
func toldBy(c *chain.Core) []reflect.Value {
	out := []reflect.Value{reflect.ValueOf(c.State()), reflect.ValueOf(c.Records())}
	for slot := range 24 {
		state, has := c.StateAt(slot)
		out = append(out, reflect.ValueOf(state), reflect.ValueOf(has))
	}
	return out
}

// chainMessages are such that some replica takes each of them, and others don't.
func chainMessages() []api.Msg {
	out := []api.Msg{aMsg(), {}, {Kind: api.KRequest, Req: wish(1, 1)}}
	for _, b := range []api.Ballot{{}, highBallot} {
		order := []int{0, 1, 2, 3}
		if b == highBallot {
			order = entered().Order
		}
		for _, slot := range []int{1, 5, 6, 8, 9} {
			r := wish(4, 11)
			if b == highBallot && slot == 6 {
				r = api.Req{}
			}
			out = append(out, goneDown(b, slot, r, order[0]), goneDown(b, slot, r, order[:2]...), goneUp(b, slot, r, order[2]), goneUp(b, slot, r, order[2], order[1]), committed(b, slot, r))
		}
	}
	return append(out, committed(lowBallot, 1, wish(2, 1)), committed(lowBallot, 2, api.Req{Client: 2, Op: []byte("none"), Sig: []byte("sig")}))
}

// chainRecords are of all kinds.
func chainRecords() []api.Msg {
	out := []api.Msg{aMsg(), {}, entered(), savedState(4), savedState(8), savedState(12), {Kind: api.KPromise, Ballot: reportBallot}}
	for _, slot := range []int{1, 5, 9} {
		out = append(out, slotRecords(highBallot, slot, wish(2, 1))...)
		out = append(out, slotRecords(reportBallot, slot, aReq())...)
	}
	return out
}

func TestCores(t *testing.T) {
	keepsRules(t, call{"New of no cluster", func(n, me int) api.Errno { _, e := chain.New(n, me); return e }, []any{5, 1}})
	acts := map[int]int{}
	count := func(told []api.Act) []api.Act {
		for _, a := range told {
			acts[a.Msg.Kind]++
		}
		return told
	}
	for which, start := range cores() {
		// One replica for all calls that ask: nothing that was answered is what it keeps.
		kept := start()
		keepsRules(t, call{"State of " + which, kept.State, nil})
		keepsRules(t, call{"Records of " + which, kept.Records, nil})
		for _, slot := range []int{-1, 0, 4, 5, 8} {
			keepsRules(t, call{"StateAt of " + which, kept.StateAt, []any{slot}})
		}
		for i, r := range []api.Req{{}, aReq(), wish(1, 5), wish(1, 6), wish(2, 1), wish(4, 11), wish(4, 12), wish(3, 6)} {
			keepsRules(t, call{"Ask of request " + strconv.Itoa(i) + " of " + which, func(r api.Req) ([]api.Act, api.Core) {
				c := start()
				return count(c.Ask(r)), c.State()
			}, []any{r}})
		}
		for i, m := range chainMessages() {
			keepsRules(t, call{"Take of message " + strconv.Itoa(i) + " by " + which, func(m api.Msg) ([]api.Act, api.Core, []api.Act) {
				c := start()
				return count(c.Take(m)), c.State(), c.Take(m)
			}, []any{m}})
		}
		keepsRules(t, call{"Redo of " + which, func(records ...api.Msg) (api.Core, []api.Msg) {
			c := start()
			c.Redo(records...)
			return c.State(), c.Records()
		}, []any{chainRecords()}})
		for _, b := range []api.Ballot{{}, highBallot, {View: 9}} {
			keepsRules(t, call{"Promise of " + which, func(b api.Ballot) ([]api.Act, api.Core) {
				c := start()
				return count(c.Promise(b)), c.State()
			}, []any{b}})
			for _, m := range []api.Msg{entered(), {Order: []int{1, 0, 3, 2}}, aMsg()} {
				keepsRules(t, call{"Enter of " + which, func(base int, order []int, picks ...api.Req) ([]api.Act, api.Core) {
					c := start()
					return count(c.Enter(b, base, order, picks...)), c.State()
				}, []any{m.Slot, m.Order, m.Picks}})
			}
		}
		for _, m := range []api.Msg{savedState(3), savedState(8), savedState(12), aMsg()} {
			keepsRules(t, call{"Save of " + which, func(slot int, data []byte, cert []api.Vote) ([]api.Act, api.Core) {
				c := start()
				return count(c.Save(slot, data, cert)), c.State()
			}, []any{m.Slot, m.Data, m.Cert}})
		}
	}
	for _, kind := range []int{api.KChain, api.KAck, api.KCommit, api.KReply, api.KCheck, api.KPromise, api.KEnter, api.KVote, api.KPrep, api.KDone, api.KSave} {
		if acts[kind] == 0 {
			t.Errorf("nothing of kind %d was told", kind)
		}
	}
}

// chainCalls are all calls that hand something to a replica, each with what it hands in.
func chainCalls() []call {
	var out []call
	for _, r := range []api.Req{wish(2, 1), wish(4, 12), wish(1, 5)} {
		out = append(out, call{"Ask", (*chain.Core).Ask, []any{r}})
	}
	for _, m := range chainMessages() {
		out = append(out, call{"Take", (*chain.Core).Take, []any{m}})
	}
	for _, m := range chainRecords() {
		out = append(out, call{"Redo", (*chain.Core).Redo, []any{[]api.Msg{m}}})
	}
	m := entered()
	for _, b := range []api.Ballot{{View: 5, Turn: 1}, {View: 1, Turn: 2}, highBallot} {
		out = append(out, call{"Enter", (*chain.Core).Enter, []any{b, m.Slot, m.Order, m.Picks}})
	}
	for _, m := range []api.Msg{savedState(4), savedState(8), savedState(12)} {
		out = append(out, call{"Save", (*chain.Core).Save, []any{m.Slot, m.Data, m.Cert}})
	}
	return append(out, call{"Promise", (*chain.Core).Promise, []any{api.Ballot{View: 9}}})
}

// of does a call of a replica, and tells what it told.
func (c call) of(core *chain.Core, args []reflect.Value) []reflect.Value {
	return c.do(append([]reflect.Value{reflect.ValueOf(core)}, args...))
}

func TestCoresKeepNothing(t *testing.T) { // what was handed in and what was told may be written over, while the replica is still there
	calls := chainCalls()
	for which, start := range cores() {
		for i, x := range calls {
			c, want := start(), start()
			args, before := x.values(), x.values()
			told, wanted := x.of(c, args), x.of(want, before)
			name := x.name + " " + strconv.Itoa(i) + " of " + which
			if !sameAll(args, before) || !sameAll(told, wanted) || !apart(listsWithRoom(append(append(args, told...), toldBy(c)...)...)) {
				t.Errorf("%s: what was handed in was changed, or is told", name)
			}
			writeOver(args)
			writeOver(told)
			if !sameAll(toldBy(c), toldBy(want)) {
				t.Errorf("%s: what was handed in or told was kept", name)
			}
			// Nor does what comes behind it meet what was written.
			for _, y := range calls {
				if !sameAll(y.of(c, y.values()), y.of(want, y.values())) {
					t.Fatalf("%s: %s behind it tells another thing", name, y.name)
				}
			}
		}
	}
}

func TestToldCoresAreTheCallers(t *testing.T) { // P21.1, P21.2: what was told may be written over, and what is told later shares no memory with it
	for which, start := range cores() {
		c := start()
		told, was := toldBy(c), toldBy(c)
		if !apart(listsWithRoom(append(told, was...)...)) {
			t.Errorf("%s: answers share memory", which)
		}
		writeOver(told)
		if !sameAll(toldBy(c), was) {
			t.Errorf("%s became another behind a write into what it told", which)
		}
	}
}

func TestToldCoresStay(t *testing.T) { // an answer doesn't change with the replica
	for which, start := range cores() {
		c := start()
		told, want := toldBy(c), toldBy(start())
		for _, x := range chainCalls() {
			x.of(c, x.values())
		}
		if !sameAll(told, want) {
			t.Errorf("%s: what it told became another", which)
		}
	}
}

func TestToldActsStay(t *testing.T) { // what a call told doesn't change with the replica, either
	calls := chainCalls()
	for which, start := range cores() {
		for i, x := range calls {
			c := start()
			told, want := x.of(c, x.values()), x.of(start(), x.values())
			for _, y := range calls {
				y.of(c, y.values())
			}
			if !sameAll(told, want) {
				t.Errorf("%s: what call %d told became another", which, i)
			}
		}
	}
}

func TestCoresHangOnThemselves(t *testing.T) { // P2: whatever was done ahead to other replicas, or refused
	for which, start := range cores() {
		c, other := start(), start()
		for _, x := range chainCalls() {
			x.of(other, x.values())
		}
		for _, m := range append(sealable(), goneDown(highBallot, 9, aReq(), 1), goneUp(lowBallot, 9, aReq(), 2), committed(highBallot, 30, aReq())) {
			c.Take(m)
		}
		c.Promise(api.Ballot{View: -1})
		c.Enter(api.Ballot{View: 9}, 0, []int{0, 1, 2})
		c.Save(4, []byte("none"), someVotes())
		if !sameAll(toldBy(c), toldBy(start())) {
			t.Errorf("%s beside others tells %v", which, toldBy(c))
		}
	}
}
