package rules

import (
	"bytes"
	"reflect"
	"strconv"
	"testing"

	"catenary/api"
	"catenary/fetch"
	"catenary/vote"
)

// fetchSlot is the one that fetches want.
const fetchSlot = 8

// twoPieces is a state that is told in two of them, each byte the same.
func twoPieces(each byte) []byte { return bytes.Repeat([]byte{each}, api.MaxPiece+9) }

// tellState hands a state as several replicas tell it to a fetch.
func tellState(f *fetch.Fetch, each byte, froms ...int) *fetch.Fetch {
	for _, from := range froms {
		for _, m := range fetch.Pieces(fetchSlot, from, twoPieces(each)) {
			f.Add(m)
		}
	}
	return f
}

// fetches are such ways to make a fetch of 4 that Add and Ready go all ways: nothing is wanted, nothing came, a part, too few, enough, all, two states, forgotten.
func fetches() map[string]func() *fetch.Fetch {
	start := func(told func(f *fetch.Fetch)) func() *fetch.Fetch {
		return func() *fetch.Fetch {
			f := fetch.New(4)
			f.Want(fetchSlot)
			told(f)
			return f
		}
	}
	return map[string]func() *fetch.Fetch{
		"a new fetch":             func() *fetch.Fetch { return fetch.New(4) },
		"a fetch of no cluster":   func() *fetch.Fetch { return fetch.New(5) },
		"a fetch of nothing":      start(func(f *fetch.Fetch) { tellState(f, 7, 1, 2); f.Want(0) }),
		"an empty fetch":          start(func(f *fetch.Fetch) {}),
		"a fetch with a piece":    start(func(f *fetch.Fetch) { f.Add(fetch.Pieces(fetchSlot, 1, twoPieces(7))[1]) }),
		"a fetch a teller short":  start(func(f *fetch.Fetch) { tellState(f, 7, 3) }),
		"a fetch that is ready":   start(func(f *fetch.Fetch) { tellState(f, 7, 3, 1) }),
		"a fetch with all":        start(func(f *fetch.Fetch) { tellState(f, 7, 3, 1, 0, 2) }),
		"a fetch with two states": start(func(f *fetch.Fetch) { tellState(f, 7, 3, 1); tellState(f, 5, 0, 2) }),
		"a fetch that forgot":     start(func(f *fetch.Fetch) { tellState(f, 7, 3, 1, 0, 2); f.Want(fetchSlot) }),
		"a fetch of no bytes": start(func(f *fetch.Fetch) {
			f.Add(fetch.Pieces(fetchSlot, 3, nil)[0])
			f.Add(fetch.Pieces(fetchSlot, 1, nil)[0])
		}),
		"a fetch of another slot":  start(func(f *fetch.Fetch) { f.Want(12); tellState(f, 7, 3, 1) }),
		"a fetch with other bytes": start(func(f *fetch.Fetch) { tellState(f, 7, 3); tellState(f, 5, 1) }),
	}
}

// stateOf is all that a fetch tells.
func stateOf(f *fetch.Fetch) []reflect.Value {
	state, ok := f.Ready()
	return []reflect.Value{reflect.ValueOf(f.Slot()), reflect.ValueOf(state), reflect.ValueOf(ok)}
}

// somePieces are messages of which each fetch takes some or none.
func somePieces() []api.Msg {
	out := append(sealable(), fetch.Pieces(fetchSlot, 2, twoPieces(7))...)
	out = append(out, fetch.Pieces(fetchSlot, 1, twoPieces(7))...)
	out = append(out, fetch.Pieces(fetchSlot, 3, []byte("one"))...)
	out = append(out, fetch.Pieces(fetchSlot, 0, nil)...)
	unsealed := out[len(out)-1]
	unsealed.Sig = nil
	return append(out, unsealed, vote.Seal(unsealed, 2), fetch.Pieces(12, 0, twoPieces(7))[0])
}

func TestFetches(t *testing.T) {
	for which, start := range fetches() {
		// One fetch for all calls that tell: nothing that was answered is what it keeps.
		kept := start()
		keepsRules(t, call{"Ready of " + which, kept.Ready, nil})
		keepsRules(t, call{"Slot of " + which, kept.Slot, nil})
		for i, m := range somePieces() {
			keepsRules(t, call{"Add of message " + strconv.Itoa(i) + " to " + which, func(m api.Msg) (bool, int, []byte, bool) {
				f := start()
				taken := f.Add(m)
				tellState(f, 7, 0, 1, 2)
				state, ok := f.Ready()
				return taken, f.Slot(), state, ok
			}, []any{m}})
		}
	}
}

func TestToldPieces(t *testing.T) {
	for _, size := range []int{0, 1, 256, 257, 1000, api.MaxPieces * api.MaxPiece, api.MaxPieces*api.MaxPiece + 1} {
		for _, slot := range []int{-1, 0, fetchSlot, api.MaxInt + 1} {
			for _, from := range []int{-1, 0, 15, 16} {
				which := strconv.Itoa(size) + " bytes of slot " + strconv.Itoa(slot) + " from " + strconv.Itoa(from)
				keepsRules(t, call{"Pieces of " + which, fetch.Pieces, []any{slot, from, bytes.Repeat([]byte("b"), size)}})
			}
		}
	}
	keepsRules(t, call{"Pieces of none", fetch.Pieces, []any{fetchSlot, 1, []byte{}}})
}

func TestFetchesKeepNothing(t *testing.T) { // P20.2: what was handed in may be written over, while the fetch is still there
	for which, start := range fetches() {
		f, want := start(), start()
		for _, from := range []int{2, 0, 1, 3} {
			for _, m := range fetch.Pieces(fetchSlot, from, twoPieces(7)) {
				args := call{args: []any{m}}.values()
				if f.Add(args[0].Interface().(api.Msg)) != want.Add(m) {
					t.Errorf("%s takes otherwise", which)
				}
				if !apart(listsWithRoom(append(args, stateOf(f)...)...)) {
					t.Errorf("%s: what was handed in is told", which)
				}
				writeOver(args)
				if !sameAll(stateOf(f), stateOf(want)) {
					t.Errorf("%s: what was handed in was kept", which)
				}
			}
		}
	}
}

func TestFetchedStatesAreTheCallers(t *testing.T) { // P20.3: what was told may be written over, and what is told later shares no memory with it
	for which, start := range fetches() {
		f := start()
		told, was := stateOf(f), stateOf(f)
		if !apart(listsWithRoom(append(told, was...)...)) {
			t.Errorf("%s: answers share memory", which)
		}
		writeOver(told)
		if !sameAll(stateOf(f), was) {
			t.Errorf("%s became another behind a write into what it told", which)
		}
		// Nor do pieces that come later meet what was written.
		if !sameAll(stateOf(tellState(f, 7, 0, 1, 2, 3)), stateOf(tellState(start(), 7, 0, 1, 2, 3))) {
			t.Errorf("%s takes otherwise behind a write into what it told", which)
		}
	}
}

func TestToldPiecesAreTheCallers(t *testing.T) { // P20.4: they may be written over, when they were taken and ahead of that
	state := twoPieces(7)
	written := fetch.Pieces(fetchSlot, 1, state)
	writeOver([]reflect.Value{reflect.ValueOf(written)})
	f := fetch.New(4)
	f.Want(fetchSlot)
	for _, from := range []int{1, 2} {
		for _, m := range fetch.Pieces(fetchSlot, from, state) {
			f.Add(m)
			writeOver([]reflect.Value{reflect.ValueOf([]api.Msg{m})})
		}
	}
	if got, ok := f.Ready(); !ok || !bytes.Equal(got, state) || !bytes.Equal(state, twoPieces(7)) {
		t.Errorf("pieces that were written over make %v, %v", got, ok)
	}
}

func TestFetchedStatesStay(t *testing.T) { // an answer doesn't change with the fetch
	for which, start := range fetches() {
		f := start()
		told, want := stateOf(f), stateOf(start())
		tellState(f, 7, 0, 1, 2, 3)
		f.Want(fetchSlot)
		tellState(f, 5, 0, 1, 2, 3)
		f.Want(0)
		if !sameAll(told, want) {
			t.Errorf("%s: %v became %v", which, want, told)
		}
	}
}

func TestFetchesHangOnThemselves(t *testing.T) { // P2: whatever was done ahead to other fetches, or refused
	for which, start := range fetches() {
		mine := func() *fetch.Fetch {
			f := fetch.New(4)
			f.Want(fetchSlot)
			return tellState(f, 5, 1)
		}
		other, f := start(), mine()
		tellState(other, 5, 0, 1, 2, 3)
		for i, m := range somePieces() {
			other.Add(m)
			if i < len(sealable()) && f.Add(m) {
				t.Errorf("message %d is taken", i)
			}
		}
		other.Want(12)
		fetch.Pieces(fetchSlot, 3, twoPieces(5))
		if !sameAll(stateOf(f), stateOf(mine())) || !sameAll(stateOf(tellState(f, 5, 2)), stateOf(tellState(mine(), 5, 2))) {
			t.Errorf("a fetch beside %s tells %v", which, stateOf(f))
		}
	}
}
