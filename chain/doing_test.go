package chain

import (
	"fmt"
	"math"
	"slices"
	"strings"
	"testing"

	"catenary/api"
)

// commit asks what a KCommit of a slot tells, and what changes beside what is known of the slot.
func commit(t *testing.T, what string, c *Core, n, slot int, r api.Req, change func(s *api.Core), want ...api.Act) {
	t.Helper()
	signers := from(0, quorum(n))
	known := votes(ackKind, b10, slot, body(r), signers...)
	takes(t, fmt.Sprintf("%s: slot %d", what, slot), c, commits(b10, slot, r, signers...), func(s *api.Core) {
		atDone(s, slot, b10, r, known)
		change(s)
	}, append([]api.Act{kept(done(b10, slot, r, known))}, want...)...)
}

// comes is what doing changes: the service's state.
func comes(a api.App) func(s *api.Core) { return func(s *api.Core) { s.App = a } }

func TestDoing(t *testing.T) { // P21.3: slots in order: each is done at once, told to its client, and every fourth one to all
	for _, n := range rightNs {
		for _, me := range []int{0, 1, n - 1} {
			c, what := core(t, n, me), fmt.Sprintf("replica %d of %d", me, n)
			row := []api.Req{put(1, 1), get(2, 7), get(3, 1), put(1, 2), get(4, 5), zero, get(1, greatest), zero}
			told := [][]api.Act{{reply(me, row[0], yes, "")}, {reply(me, row[1], yes, "1.1")}, {reply(me, row[2], yes, "1.1")}, {reply(me, row[3], yes, "")}, {reply(me, row[4], yes, "1.2")}, {}, {reply(me, row[6], yes, "1.2")}, {}}
			for i, r := range row {
				a := after(api.App{}, row[:i+1]...)
				if (i+1)%period == 0 {
					told[i] = append(told[i], checks(n, me, a)...)
				}
				commit(t, what, c, n, i+1, r, comes(a), told[i]...)
			}
		}
	}
}

func TestGap(t *testing.T) { // P21.3: what is committed behind a gap is done when that is closed, several at once
	row := []api.Req{put(1, 1), put(2, 1), get(3, 1), get(1, 2), zero, put(4, 1), get(2, 2), put(3, 2), put(1, 3)}
	c := core(t, 4, 3)
	for _, slot := range []int{2, 9, 4, 3, 6, 7, 8} {
		commit(t, "a gap", c, 4, slot, row[slot-1], unchanged)
	}
	commit(t, "the first", c, 4, 1, row[0], comes(after(api.App{}, row[:4]...)),
		slices.Concat([]api.Act{reply(3, row[0], yes, ""), reply(3, row[1], yes, ""), reply(3, row[2], yes, "2.1"), reply(3, row[3], yes, "2.1")}, checks(4, 3, after(api.App{}, row[:4]...)))...)
	commit(t, "the second gap", c, 4, 5, row[4], comes(after(api.App{}, row...)),
		slices.Concat([]api.Act{reply(3, row[5], yes, ""), reply(3, row[6], yes, "4.1"), reply(3, row[7], yes, "")}, checks(4, 3, after(api.App{}, row[:8]...)), []api.Act{reply(3, row[8], yes, "")})...)
	hasState(t, "all", c, 4, after(api.App{}, row[:4]...))
	hasState(t, "all", c, 8, after(api.App{}, row[:8]...))
}

func TestGapOfAWholeWindow(t *testing.T) { // P21.3: sixteen slots at once, and four checkpoints
	var row []api.Req
	var want []api.Act
	c := core(t, 7, 2)
	for slot := 1; slot <= open; slot++ {
		row = append(row, put(1+slot%4, slot))
		want = append(want, reply(2, row[slot-1], yes, ""))
		if slot%period == 0 {
			want = append(want, checks(7, 2, after(api.App{}, row...))...)
		}
	}
	for slot := open; slot > 1; slot-- {
		commit(t, "a window", c, 7, slot, row[slot-1], unchanged)
	}
	commit(t, "a window", c, 7, 1, row[0], comes(after(api.App{}, row...)), want...)
}

func TestTheLastSlot(t *testing.T) { // P21.3: behind MaxSlot nothing is done
	for _, me := range []int{0, 3} {
		c := core(t, 4, me, save(4, stateAt(mostSlot-2)))
		commit(t, "behind the end", c, 4, mostSlot+1, put(2, 3), unchanged)
		commit(t, "the end", c, 4, mostSlot, put(2, 2), unchanged)
		a := after(stateAt(mostSlot-2), put(2, 1), put(2, 2))
		commit(t, "ahead of the end", c, 4, mostSlot-1, put(2, 1), comes(a), append([]api.Act{reply(me, put(2, 1), yes, ""), reply(me, put(2, 2), yes, "")}, checks(4, me, a)...)...)
		hasState(t, "the end", c, mostSlot, a)
		commit(t, "far behind the end", c, 4, mostSlot+2, put(2, 4), unchanged)
		commit(t, "as far as can be", c, 4, mostSlot+14, zero, unchanged)

		c = core(t, 4, me, save(4, stateAt(mostSlot)))
		commit(t, "all is over", c, 4, mostSlot+1, put(2, 3), unchanged)
		commit(t, "all is over", c, 4, mostSlot+4, put(2, 3), unchanged)
		remade(t, "all is over", 4, me, c)
	}
}

func TestOldRequests(t *testing.T) { // P21.3: with the session's Stamp its Result is told, whatever is asked now; with a lower one, nothing
	start := stateAt(4)
	start.Sessions = append(start.Sessions, api.Session{Client: 4, Stamp: 9, Result: api.Result{Code: old, Value: []byte("x")}})
	c := core(t, 4, 1, save(4, start))
	slot := 4
	next := func(what string, r api.Req, want ...api.Act) {
		t.Helper()
		slot++
		a := after(c.State().App, r)
		if slot%period == 0 {
			want = append(want, checks(4, 1, a)...)
		}
		commit(t, what, c, 4, slot, r, comes(a), want...)
	}
	next("the session's", put(1, 5), reply(1, put(1, 5), yes, "one"))
	next("another with its Stamp", get(1, 5), reply(1, get(1, 5), yes, "one"))
	next("below it", put(1, 4))
	next("far below it", put(1, 1))
	next("of another client", put(3, 7), reply(1, put(3, 7), missing, ""))
	next("below that", put(3, 6))
	next("above it", get(3, 8), reply(1, get(3, 8), yes, "old"))
	next("again", get(3, 8), reply(1, get(3, 8), yes, "old"))
	next("what was above it is below it now", put(3, 7))
	next("a Result that is Old", put(4, 9))
	next("above that", put(4, 10), reply(1, put(4, 10), yes, ""))
	next("no session", put(2, 1), reply(1, put(2, 1), yes, ""))
}

func TestOddRequests(t *testing.T) { // P21.3: that were committed all the same
	for _, r := range []api.Req{
		asked(1, 9, []byte("x")), asked(1, 9, nil), asked(1, 9, []byte{1, 0, 0, 0, 0}), {Client: 2, Stamp: 1}, {Client: 4, Stamp: greatest, Op: []byte{0}, Sig: []byte("sig")},
		{Client: 1}, {Client: 3, Stamp: -1}, {Client: 4, Stamp: greatest + 1, Op: put(1, 1).Op}, {Client: 2, Stamp: math.MinInt}, {Client: 2, Stamp: math.MaxInt}, {Client: 1, Op: []byte{0}},
	} {
		c := core(t, 4, 2, save(4, stateAt(5)))
		a := after(stateAt(5), r)
		// A Stamp that no request has is below no session's, but Bad.
		commit(t, fmt.Sprintf("request %v", r), c, 4, 6, r, comes(a), reply(2, r, bad, ""))
	}
	for _, client := range []int{math.MinInt, -100, -1, 0, 5, 6, 27, 100, 101, 1<<32 + 1, math.MaxInt} {
		for _, r := range []api.Req{asked(client, 9, put(1, 9).Op), {Client: client, Stamp: 9}} {
			c := core(t, 4, 2, save(4, stateAt(5)))
			commit(t, fmt.Sprintf("client %d", client), c, 4, 6, r, comes(after(stateAt(5), zero)))
		}
	}
	for what, r := range nearlyZero() {
		if r.Client == 0 {
			c := core(t, 4, 2, save(4, stateAt(5)))
			commit(t, "zero but for "+what, c, 4, 6, r, comes(after(stateAt(5), zero)))
		}
	}
}

func TestReplies(t *testing.T) { // P21.3: of results of all kinds, with values of all sizes
	c := core(t, 10, 9)
	op := func(kind byte, a, b string, num byte) []byte {
		return slices.Concat([]byte{kind, 1, 'b', byte(len(a))}, []byte(a), []byte{byte(len(b))}, []byte(b), []byte{num})
	}
	long := strings.Repeat("z", 64)
	row := []struct {
		client int
		op     []byte
		code   int
		value  string
	}{
		{1, op(1, "", "", 0), missing, ""}, {2, op(2, long, "", 0), yes, ""}, {1, op(1, "", "", 0), yes, long}, {3, op(3, "x", "y", 0), 2, long},
		{4, op(5, "", "", 9), yes, ""}, {1, op(5, "", "", 9), 4, "\x04\x08"}, {1, op(8, "", "", 0), yes, "\x04\x07"}, {2, []byte("none"), bad, ""}, {2, op(7, "", "", 0), 4, "\x04\x05"}, {2, op(4, "", "", 0), yes, ""},
	}
	for i, x := range row {
		r := asked(x.client, i+1, x.op)
		got := c.Take(commits(b10, i+1, r, from(0, 7)...))
		if len(got) < 2 || !equal(got[1], reply(9, r, x.code, x.value)) {
			t.Errorf("request %d tells %s", i, lines(got))
		}
	}
}

func TestDoingAndPending(t *testing.T) { // P21.3: one of its client with a Stamp that isn't above goes, no other
	for _, pending := range []int{8, 9, 10} {
		c := core(t, 4, 3)
		for client := 1; client <= 4; client++ {
			c.Ask(put(client, pending))
		}
		gone := []api.Req{put(1, pending), put(3, pending), put(4, pending)}
		commit(t, fmt.Sprint("Pending ", pending), c, 4, 1, get(2, 9), func(s *api.Core) {
			s.App = after(api.App{}, get(2, 9))
			if pending <= 9 {
				s.Pending = gone
			}
		}, reply(3, get(2, 9), missing, ""))
	}
	// What is committed isn't done yet.
	c := core(t, 4, 3)
	c.Ask(put(2, 9))
	commit(t, "a gap", c, 4, 2, put(2, 9), unchanged)
	commit(t, "the zero request", c, 4, 1, zero, func(s *api.Core) { s.App, s.Pending = after(api.App{}, zero, put(2, 9)), nil }, reply(3, put(2, 9), yes, ""))
	// A client or a Stamp that no request has.
	for _, client := range []int{0, 5, -2, 1<<32 + 2} {
		c = core(t, 4, 3)
		c.Ask(put(2, 9))
		commit(t, "a stranger's", c, 4, 1, asked(client, 9, get(2, 9).Op), comes(after(api.App{}, zero)))
	}
	for _, stamp := range []int{greatest + 1, math.MaxInt, 0, -1, math.MinInt} {
		c = core(t, 4, 3)
		c.Ask(put(2, 9))
		r := api.Req{Client: 2, Stamp: stamp}
		commit(t, fmt.Sprint("Stamp ", stamp), c, 4, 1, r, func(s *api.Core) {
			s.App.Slot = 1
			if stamp > 9 {
				s.Pending = nil
			}
		}, reply(3, r, bad, ""))
	}
}
