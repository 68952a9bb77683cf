package window

import (
	"fmt"
	"math"
	"testing"

	"catenary/api"
)

func TestErrors(t *testing.T) { // the section Errors: 171, of each of the three calls
	for _, a := range asks() {
		e := a.do(New(0), one, 0, api.Req{})
		answers(t, a.name, e, 171)
		if e != api.ErrWindow || e.Error() != "error 171" {
			t.Errorf("%s: %v", a.name, e)
		}
	}
}

// lows are what a window may be made above, and what it is above then.
func lows() map[int]int {
	return map[int]int{
		math.MinInt: 0, math.MinInt + 1: 0, -1 << 32: 0, -mostSlot: 0, -17: 0, -1: 0,
		0: 0, 1: 1, 4: 4, 15: 15, 16: 16, 17: 17, mostSlot - 17: mostSlot - 17, mostSlot - 1: mostSlot - 1, mostSlot: mostSlot,
		mostSlot + 1: mostSlot, mostSlot + 17: mostSlot, math.MaxInt32: mostSlot, 1 << 32: mostSlot, 1<<32 + 4: mostSlot, math.MaxInt - 16: mostSlot, math.MaxInt: mostSlot,
	}
}

func TestNew(t *testing.T) { // P17.1: a window of which nothing is known, above low, which counts as 0 or MaxSlot beyond these
	for low, want := range lows() {
		holds(t, fmt.Sprintf("New(%d)", low), New(low), want)
	}
}

func TestIn(t *testing.T) { // P17.1: the slots above Low, at most Low + 16
	for low, want := range map[int]map[int]bool{
		0:        {math.MinInt: false, -1: false, 0: false, 1: true, 16: true, 17: false, 1<<32 + 1: false, math.MaxInt: false},
		4:        {math.MinInt: false, -5: false, 0: false, 3: false, 4: false, 5: true, 20: true, 21: false, math.MaxInt: false},
		mostSlot: {-1: false, mostSlot: false, mostSlot + 1: true, mostSlot + 16: true, mostSlot + 17: false, math.MaxInt: false},
	} {
		for slot, in := range want {
			if New(low).In(slot) != in {
				t.Errorf("above %d, In(%d) isn't %t", low, slot, in)
			}
		}
	}
}

func TestOpenSlotsAlone(t *testing.T) { // P17.1, P17.2: at each slot that isn't In the three calls answer ErrWindow, and nothing is known
	for _, low := range []int{0, 4, 16, mostSlot - 1, mostSlot} {
		for _, a := range asks() {
			for _, slot := range slotsFor(low) {
				w, what := New(low), fmt.Sprintf("%s at %d above %d", a.name, slot, low)
				e := a.do(w, one, slot, b(), certs()[0]...)
				if isOpen(slot, low) {
					answers(t, what, e, 0)
					holds(t, what, w, low, a.now(slot, one, b(), certs()[0]...))
					continue
				}
				answers(t, what, e, refused)
				holds(t, what, w, low)
			}
		}
	}
}

func TestAllOpenSlots(t *testing.T) { // P17.1, P17.2: something is known of each of them, of each another thing
	for _, low := range []int{0, 4, mostSlot} {
		for _, a := range asks() {
			w, rows := New(low), []row(nil)
			for i := range open {
				slot, r := low+open-i, api.Req{Client: i}
				answers(t, a.name, a.do(w, api.Ballot{Turn: i}, slot, r, certs()[i%4]...), 0)
				rows = append([]row{a.now(slot, api.Ballot{Turn: i}, r, certs()[i%4]...)}, rows...)
			}
			holds(t, a.name+" at all slots", w, low, rows...)
			for _, slot := range []int{low - 1, low, low + open + 1} {
				answers(t, a.name+" beyond them", a.do(w, two, slot, api.Req{}), refused)
			}
			holds(t, a.name+" beyond them", w, low, rows...)
		}
	}
}

func TestKnownOfTheLeast(t *testing.T) { // P17.1, P17.2: the zero request in the zero ballot, without votes, is something that is known
	for _, a := range asks() {
		w := New(0)
		answers(t, a.name, a.do(w, api.Ballot{}, 1, api.Req{}), 0)
		holds(t, a.name, w, 0, a.now(1, api.Ballot{}, api.Req{}))
		if s := w.At(1); s.HasVote != (a.name == "Vote") || s.HasPrep != (a.name == "Prep") || s.HasDone != (a.name == "Done") {
			t.Errorf("%s: %+v", a.name, s)
		}
	}
}

func TestSlotsRise(t *testing.T) { // P17.1: whatever the order was in which they became known
	for _, order := range [][]int{{5, 6, 20}, {20, 6, 5}, {6, 20, 5}, {20, 5, 6, 20, 5}} {
		for shift := range asks() {
			w := New(4)
			for i, slot := range order {
				asks()[(shift+i)%3].do(w, one, slot, a())
			}
			if got := fmt.Sprint(w.Slots()); got != "[5 6 20]" {
				t.Errorf("behind %v: %s", order, got)
			}
		}
	}
}

func TestWindowsAreTheirOwn(t *testing.T) { // P17.1: what is known of one isn't of another
	w, v := New(4), New(4)
	for _, a := range asks() {
		a.do(v, one, 5, b())
	}
	holds(t, "beside another", w, 4)
	v.Cut(8)
	holds(t, "beside another that was cut", w, 4)
}
