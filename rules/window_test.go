package rules

import (
	"reflect"
	"strconv"
	"testing"

	"catenary/api"
	"catenary/window"
)

// openSlot is one that is open in each of windows.
const openSlot = 9

var (
	lowBallot  = api.Ballot{View: 1}
	highBallot = api.Ballot{View: 1, Turn: 1}
)

// aSlot has something in each field.
func aSlot() api.Slot {
	return api.Slot{
		HasVote: true, Voted: highBallot, Vote: rivals()[1],
		HasPrep: true, Prepared: lowBallot, Prep: aReq(), Cert: someVotes(),
		HasDone: true, Done: rivals()[2], Ballot: highBallot, Votes: someVotes(),
	}
}

// learn makes all known at a slot that aSlot has.
func learn(w *window.Window, slot int) {
	s := aSlot()
	w.Vote(s.Voted, slot, s.Vote)
	w.Prep(s.Prepared, slot, s.Prep, s.Cert...)
	w.Done(s.Ballot, slot, s.Done, s.Votes...)
}

// windows are such ways to make a window that each call takes all ways: nothing is known, of other slots, of this one each thing, all, behind Cut.
func windows() map[string]func() *window.Window {
	start := func(f func(w *window.Window)) func() *window.Window {
		return func() *window.Window {
			w := window.New(4)
			f(w)
			return w
		}
	}
	return map[string]func() *window.Window{
		"an unknown window":  start(func(w *window.Window) {}),
		"a window with more": start(func(w *window.Window) { learn(w, 8); learn(w, 10); learn(w, 20) }),
		"a voted slot":       start(func(w *window.Window) { w.Vote(lowBallot, openSlot, rivals()[1]) }),
		"a prepared slot":    start(func(w *window.Window) { w.Prep(lowBallot, openSlot, rivals()[1], someVotes()...) }),
		"a committed slot":   start(func(w *window.Window) { w.Done(lowBallot, openSlot, rivals()[1], someVotes()...) }),
		"a known slot":       start(func(w *window.Window) { learn(w, 5); learn(w, openSlot) }),
		"a cut window":       start(func(w *window.Window) { learn(w, 5); learn(w, openSlot); learn(w, 20); w.Cut(8) }),
		"a window cut of it": start(func(w *window.Window) { learn(w, openSlot); w.Cut(openSlot) }),
	}
}

// slots are all that a window tells, slot by slot.
func slots(w *window.Window) []api.Slot {
	var out []api.Slot
	for slot := range 30 {
		out = append(out, w.At(slot))
	}
	return out
}

// tellings are all that a window tells.
func tellings(w *window.Window) []reflect.Value {
	return []reflect.Value{reflect.ValueOf(w.Low()), reflect.ValueOf(w.Slots()), reflect.ValueOf(w.Preps()), reflect.ValueOf(slots(w))}
}

func TestWindows(t *testing.T) {
	for which, start := range windows() {
		// One window for all calls that tell: nothing that was answered is what it keeps.
		kept := start()
		keepsRules(t, call{"Slots of " + which, kept.Slots, nil})
		keepsRules(t, call{"Preps of " + which, kept.Preps, nil})
		for _, slot := range []int{-1, 4, 5, 8, openSlot, 10, 20, 21} {
			keepsRules(t, call{"At " + strconv.Itoa(slot) + " of " + which, kept.At, []any{slot}})
		}
		for i, r := range append(rivals(), aReq()) {
			for _, b := range []api.Ballot{{}, lowBallot, highBallot, {View: 2}} {
				name := " of request " + strconv.Itoa(i) + " in " + strconv.Itoa(b.View) + " " + strconv.Itoa(b.Turn) + ", " + which
				keepsRules(t, call{"Vote" + name, func(r api.Req) (api.Errno, []api.Slot) {
					w := start()
					return w.Vote(b, openSlot, r), slots(w)
				}, []any{r}})
				for _, votes := range [][]api.Vote{nil, someVotes()} {
					keepsRules(t, call{"Prep" + name, func(r api.Req, votes ...api.Vote) (api.Errno, []api.Slot, []api.Prep) {
						w := start()
						return w.Prep(b, openSlot, r, votes...), slots(w), w.Preps()
					}, []any{r, votes}})
					keepsRules(t, call{"Done" + name, func(r api.Req, votes ...api.Vote) (api.Errno, []api.Slot) {
						w := start()
						return w.Done(b, openSlot, r, votes...), slots(w)
					}, []any{r, votes}})
				}
			}
		}
	}
}

func TestWindowsKeepNothing(t *testing.T) { // P17.3: what was handed in may be written over, while the window is still there
	for which, start := range windows() {
		for i, r := range append(rivals(), aReq()) {
			for k, give := range []func(w *window.Window, r api.Req, votes []api.Vote){
				func(w *window.Window, r api.Req, _ []api.Vote) { w.Vote(highBallot, openSlot, r) },
				func(w *window.Window, r api.Req, votes []api.Vote) { w.Prep(highBallot, openSlot, r, votes...) },
				func(w *window.Window, r api.Req, votes []api.Vote) { w.Done(highBallot, openSlot, r, votes...) },
				func(w *window.Window, r api.Req, votes []api.Vote) {
					// The same memory for all three, at two slots.
					for _, slot := range []int{openSlot, 11} {
						w.Vote(highBallot, slot, r)
						w.Prep(highBallot, slot, r, votes...)
						w.Done(highBallot, slot, r, votes...)
					}
				},
			} {
				w, c := start(), call{args: []any{r, someVotes()}}
				args, before := c.values(), c.values()
				give(w, args[0].Interface().(api.Req), args[1].Interface().([]api.Vote))
				name := "call " + strconv.Itoa(k) + " of request " + strconv.Itoa(i) + ", " + which
				if !sameAll(args, before) || !apart(listsWithRoom(append(args, tellings(w)...)...)) {
					t.Errorf("%s: what was handed in was changed, or is told", name)
				}
				was := tellings(w)
				writeOver(args)
				if !sameAll(tellings(w), was) {
					t.Errorf("%s: what was handed in was kept", name)
				}
			}
		}
	}
}

func TestToldSlotsAreTheCallers(t *testing.T) { // P17.3: what was told may be written over, and what is told later shares no memory with it
	for which, start := range windows() {
		w := start()
		told, was := tellings(w), tellings(w)
		if !apart(listsWithRoom(append(told, was...)...)) {
			t.Errorf("%s: answers share memory", which)
		}
		writeOver(told)
		if !sameAll(tellings(w), was) {
			t.Errorf("%s became another behind a write into what it told", which)
		}
	}
}

func TestToldSlotsStay(t *testing.T) { // an answer doesn't change with the window
	for which, start := range windows() {
		w, other := start(), start()
		told, want := tellings(w), tellings(other)
		w.Vote(api.Ballot{View: 7}, openSlot, api.Req{Op: []byte("XYZXYZ"), Sig: []byte("XYZ")})
		w.Prep(api.Ballot{View: 7}, openSlot, api.Req{Op: []byte("XYZXYZ"), Sig: []byte("XYZ")}, api.Vote{Signer: 9, Sig: []byte("XYZXYZ")})
		w.Done(api.Ballot{View: 7}, openSlot, api.Req{}, api.Vote{Signer: 9, Sig: []byte("XYZXYZ")})
		w.Cut(12)
		learn(w, 13)
		if !sameAll(told, want) {
			t.Errorf("%s: %v became %v", which, want, told)
		}
	}
}

func TestWindowsHangOnThemselves(t *testing.T) { // P2: whatever was done ahead to other windows, or refused
	for which, start := range windows() {
		other, w := start(), window.New(4)
		learn(other, 11)
		learn(w, 6)
		other.Cut(7)
		for _, r := range rivals() {
			other.Vote(api.Ballot{View: 3}, openSlot, r)
			w.Vote(lowBallot, 6, r)
			w.Prep(api.Ballot{}, 6, r)
			w.Done(highBallot, 4, r)
		}
		alone := window.New(4)
		learn(alone, 6)
		if !sameAll(tellings(w), tellings(alone)) {
			t.Errorf("a window beside %s tells %v", which, tellings(w))
		}
	}
}
