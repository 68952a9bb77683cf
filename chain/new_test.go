package chain

import (
	"fmt"
	"math"
	"testing"

	"catenary/api"
)

func TestErrors(t *testing.T) { // the section Errors
	if api.ErrChain != refused {
		t.Errorf("ErrChain is %d", int(api.ErrChain))
	}
	if _, e := New(5, 0); int(e) != refused {
		t.Errorf("New(5, 0): error %d", int(e))
	}
}

func TestNoSuchReplica(t *testing.T) { // P21.1: ErrChain and none
	refusesNew := func(n, me int) {
		if c, e := New(n, me); c != nil || int(e) != refused {
			t.Errorf("New(%d, %d): %v, error %d", n, me, c, int(e))
		}
	}
	for _, n := range wrongNs() {
		for _, me := range append(from(-2, 22), n-1, n, n+1) {
			refusesNew(n, me)
		}
	}
	for _, n := range rightNs {
		for _, me := range []int{math.MinInt, math.MinInt + 1, -1 << 32, 1 - 1<<32, -n, -2, -1, n, n + 1, 2 * n, 16, 100, 1 << 32, 1<<32 + 1, math.MaxInt} {
			refusesNew(n, me)
		}
	}
}

func TestNew(t *testing.T) { // P21.1: the state in the beginning
	for _, n := range rightNs {
		for me := range n {
			what := fmt.Sprintf("replica %d of %d", me, n)
			c := core(t, n, me)
			is(t, what, c, beginning(n))
			if got := all(c); len(got.States) != 0 || !equal(got.Records, []api.Msg{promise(b00), enter(b00, 0, from(0, n))}) {
				t.Errorf("%s tells %+v", what, got)
			}
		}
	}
}

func TestReplicasAreApart(t *testing.T) { // P2: what one does, another doesn't
	one, other := core(t, 4, 0), core(t, 4, 0)
	one.Ask(put(1, 1))
	one.Redo(append(dones(1, put(1, 1), zero, zero, zero), promise(b10))...)
	if got := all(other); !equal(got, all(core(t, 4, 0))) {
		t.Errorf("another tells %+v", got)
	}
}

// noState asks that there is no state behind some slots, twice.
func noState(t *testing.T, what string, c *Core, slots ...int) {
	t.Helper()
	for range 2 {
		for _, slot := range slots {
			if state, has := c.StateAt(slot); len(state) != 0 || has {
				t.Errorf("%s: StateAt(%d) is %v, %v", what, slot, state, has)
			}
		}
	}
}

// hasState asks for the state behind a slot, twice.
func hasState(t *testing.T, what string, c *Core, slot int, want api.App) {
	t.Helper()
	for range 2 {
		if state, has := c.StateAt(slot); !equal(state, spell(want)) || !has {
			t.Errorf("%s: StateAt(%d) is %v, %v; want %v", what, slot, state, has, spell(want))
		}
	}
}

func TestStateAtInTheBeginning(t *testing.T) { // P21.1: nothing was done, and slot 0 is no state's
	noState(t, "in the beginning", core(t, 4, 1), append(odd(), from(-20, 60)...)...)
}

func TestStateAt(t *testing.T) { // P21.1: of multiples of 4 that were done, one behind the other
	c := core(t, 4, 3)
	var row []api.Req
	for slot := 1; slot <= open; slot++ {
		row = append(row, put(1+slot%4, slot))
		c.Redo(dones(slot, row[slot-1])...)
		what := fmt.Sprintf("%d slots done", slot)
		for other := 1; other <= open+4; other++ {
			if other%period == 0 && other <= slot {
				hasState(t, what, c, other, after(api.App{}, row[:other]...))
			} else {
				noState(t, what, c, other)
			}
		}
		noState(t, what, c, -4, -8, 0, slot+1, math.MinInt, math.MaxInt, 1<<32+4)
	}
}

func TestStateAtOfWhatIsNotDone(t *testing.T) { // P21.1: committed isn't done yet, where one is missing ahead
	c := core(t, 4, 2, dones(2, put(1, 2), put(1, 3), put(1, 4), put(1, 5))...)
	noState(t, "slot 1 is missing", c, from(-4, 30)...)
	c.Redo(dones(1, put(1, 1))...)
	hasState(t, "slot 1 is there", c, 4, after(api.App{}, put(1, 1), put(1, 2), put(1, 3), put(1, 4)))
	noState(t, "slot 1 is there", c, 0, 1, 2, 3, 5, 8)
}

func TestStateAtLow(t *testing.T) { // P21.1: of a Low that it did, and that it didn't; of no other up to Low
	row := []api.Req{put(1, 1), put(2, 1), put(1, 2), put(3, 4), put(1, 3), put(2, 8), put(4, 1), put(1, 9), put(1, 10), put(2, 10), put(2, 11), put(2, 12)}
	c := core(t, 4, 1, dones(1, row...)...)
	for _, slot := range []int{4, 8, 12} {
		hasState(t, "no Low", c, slot, after(api.App{}, row[:slot]...))
	}
	c.Redo(save(4, after(api.App{}, row[:8]...)))
	hasState(t, "Low is 8", c, 8, after(api.App{}, row[:8]...))
	hasState(t, "Low is 8", c, 12, after(api.App{}, row...))
	noState(t, "Low is 8", c, append(from(-8, 16), 9, 10, 11, 13, 16)...)
	c.Redo(save(4, after(api.App{}, row...)))
	hasState(t, "Low is 12", c, 12, after(api.App{}, row...))
	noState(t, "Low is 12", c, append(from(-8, 20), 13, 16)...)
	// Nobody did slot 40 here.
	c.Redo(save(4, stateAt(40)))
	hasState(t, "Low is 40", c, 40, stateAt(40))
	noState(t, "Low is 40", c, append(from(-8, 48), 41, 44)...)
	c.Redo(dones(41, zero, zero, zero, zero)...)
	hasState(t, "44 is done", c, 40, stateAt(40))
	hasState(t, "44 is done", c, 44, after(stateAt(40), zero, zero, zero, zero))
	noState(t, "44 is done", c, 36, 39, 41, 42, 43, 45, 48)
}

func TestStateAtOddLow(t *testing.T) { // P21.1: a Low that is no multiple of 4, behind what was done, in its midst and ahead
	row := []api.Req{put(1, 1), put(2, 1), put(1, 2), put(3, 4), put(1, 3), put(2, 8), put(4, 1), put(1, 9)}
	c := core(t, 4, 1, dones(1, row...)...)
	c.Redo(save(4, after(api.App{}, row[:5]...)))
	hasState(t, "Low is 5", c, 5, after(api.App{}, row[:5]...))
	hasState(t, "Low is 5", c, 8, after(api.App{}, row...))
	noState(t, "Low is 5", c, append(from(-8, 13), 6, 7, 9, 12)...)
	c.Redo(save(4, stateAt(11)))
	hasState(t, "Low is 11", c, 11, stateAt(11))
	noState(t, "Low is 11", c, append(from(-8, 19), 12, 13, 16)...)
	c.Redo(dones(12, put(1, 99))...)
	hasState(t, "Low is 11", c, 11, stateAt(11))
	hasState(t, "Low is 11", c, 12, after(stateAt(11), put(1, 99)))
}

func TestStateAtSavedLow(t *testing.T) { // P21.1: at Low it is what a quorum voted for, whatever was done
	c := core(t, 4, 1, dones(1, zero, zero, zero, zero, zero)...)
	c.Redo(save(4, stateAt(4)))
	hasState(t, "Low is 4", c, 4, stateAt(4))
	if s := c.State(); !equal(s.App, api.App{Slot: 5}) || !equal(s.Data, spell(stateAt(4))) {
		t.Errorf("Low is 4: %+v", s)
	}
}
