package rules

import (
	"reflect"
	"strconv"
	"testing"

	"catenary/api"
	"catenary/stable"
	"catenary/vote"
)

// checkSlot is one at which votes are handed in to each of tallies.
const checkSlot = 8

// digestOf is one of 32 bytes.
func digestOf(first byte) []byte { return append([]byte{first}, make([]byte, 31)...) }

// checkVote is a right one for such a digest.
func checkVote(slot int, first byte, signer int) api.Vote {
	return vote.Make(api.KCheck, api.Ballot{}, slot, digestOf(first), signer)
}

// count hands several replicas' votes to a tally.
func count(l *stable.Tally, slot int, first byte, signers ...int) *stable.Tally {
	for _, s := range signers {
		l.Add(slot, digestOf(first), checkVote(slot, first, s))
	}
	return l
}

// tallies are such ways to make a tally of 4 that Add takes all ways: no votes, too few, one short of a quorum, a quorum, all, no room, behind Cut.
func tallies() map[string]func() *stable.Tally {
	start := func(f func(l *stable.Tally)) func() *stable.Tally {
		return func() *stable.Tally {
			l := stable.New(4)
			f(l)
			return l
		}
	}
	return map[string]func() *stable.Tally{
		"an empty tally":           start(func(l *stable.Tally) {}),
		"a tally of no cluster":    func() *stable.Tally { return stable.New(5) },
		"a tally with a vote":      start(func(l *stable.Tally) { count(l, checkSlot, 7, 1) }),
		"a tally a vote short":     start(func(l *stable.Tally) { count(l, checkSlot, 7, 3, 1) }),
		"a tally with a quorum":    start(func(l *stable.Tally) { count(l, checkSlot, 7, 3, 1, 0) }),
		"a tally with all":         start(func(l *stable.Tally) { count(l, checkSlot, 7, 3, 1, 0, 2); count(l, 4, 5, 3, 2, 1) }),
		"a tally with two digests": start(func(l *stable.Tally) { count(l, checkSlot, 7, 3, 0); count(l, checkSlot, 5, 1) }),
		"a tally cut below":        start(func(l *stable.Tally) { count(l, checkSlot, 7, 3, 0); count(l, 4, 7, 1, 2, 3); l.Cut(7) }),
		"a tally that was cut":     start(func(l *stable.Tally) { count(l, checkSlot, 7, 3, 0); count(l, 12, 7, 1, 2, 3); l.Cut(8) }),
		"a full tally": start(func(l *stable.Tally) {
			for i := range api.MaxTally {
				count(l, 12+4*i, 7, 2, 0, 3)
			}
		}),
	}
}

// certs are all that a tally tells.
func certs(l *stable.Tally) []reflect.Value {
	out := []reflect.Value{reflect.ValueOf(l.Slots())}
	for slot := range 20 {
		digest, votes := l.Cert(slot)
		out = append(out, reflect.ValueOf(digest), reflect.ValueOf(votes))
	}
	return out
}

func TestTallies(t *testing.T) {
	for which, start := range tallies() {
		// One tally for all calls that tell: nothing that was answered is what it keeps.
		kept := start()
		keepsRules(t, call{"Slots of " + which, kept.Slots, nil})
		for _, slot := range []int{-4, 0, 4, 7, checkSlot, 12, 1 << 40} {
			keepsRules(t, call{"Cert of " + strconv.Itoa(slot) + " of " + which, kept.Cert, []any{slot}})
		}
		for i, v := range append(someVotes(), checkVote(checkSlot, 7, 0), checkVote(checkSlot, 7, 1), checkVote(checkSlot, 7, 2), checkVote(checkSlot, 5, 2), checkVote(12, 7, 2)) {
			for _, first := range []byte{7, 5} {
				keepsRules(t, call{"Add of vote " + strconv.Itoa(i) + " to " + which, func(digest []byte, v api.Vote) (bool, []int, []byte, []api.Vote) {
					l := start()
					made := l.Add(checkSlot, digest, v)
					digest, votes := l.Cert(checkSlot)
					return made, l.Slots(), digest, votes
				}, []any{digestOf(first), v}})
			}
		}
	}
}

func TestTalliesKeepNothing(t *testing.T) { // P19.2: what was handed in may be written over, while the tally is still there
	for which, start := range tallies() {
		l, want := start(), start()
		for _, signer := range []int{2, 0, 1, 3} {
			args := call{args: []any{digestOf(7), checkVote(checkSlot, 7, signer)}}.values()
			l.Add(checkSlot, args[0].Interface().([]byte), args[1].Interface().(api.Vote))
			count(want, checkSlot, 7, signer)
			if !apart(listsWithRoom(append(args, certs(l)...)...)) {
				t.Errorf("%s: what was handed in is told", which)
			}
			writeOver(args)
			if !sameAll(certs(l), certs(want)) {
				t.Errorf("%s: what was handed in was kept", which)
			}
		}
	}
}

func TestToldCertsAreTheCallers(t *testing.T) { // P19.3: what was told may be written over, and what is told later shares no memory with it
	for which, start := range tallies() {
		l := start()
		told, was := certs(l), certs(l)
		if !apart(listsWithRoom(append(told, was...)...)) {
			t.Errorf("%s: answers share memory", which)
		}
		writeOver(told)
		if !sameAll(certs(l), was) {
			t.Errorf("%s became another behind a write into what it told", which)
		}
		// Nor do votes that come later meet what was written.
		if !sameAll(certs(count(l, checkSlot, 7, 0, 1, 2, 3)), certs(count(start(), checkSlot, 7, 0, 1, 2, 3))) {
			t.Errorf("%s counts otherwise behind a write into what it told", which)
		}
	}
}

func TestToldCertsStay(t *testing.T) { // an answer doesn't change with the tally
	for which, start := range tallies() {
		l := start()
		told, want := certs(l), certs(start())
		count(l, checkSlot, 7, 0, 1, 2, 3)
		count(l, 16, 7, 0, 1, 2, 3)
		l.Cut(100)
		if !sameAll(told, want) {
			t.Errorf("%s: %v became %v", which, want, told)
		}
	}
}

func TestTalliesHangOnThemselves(t *testing.T) { // P2: whatever was done ahead to other tallies, or refused
	for which, start := range tallies() {
		other, l := start(), count(stable.New(4), 4, 5, 1, 0, 3)
		count(other, 4, 7, 1, 2, 3)
		count(l, 4, 7, 0, 1, 3)
		count(l, 6, 7, 0, 1, 3)
		other.Cut(8)
		if !sameAll(certs(l), certs(count(stable.New(4), 4, 5, 1, 0, 3))) {
			t.Errorf("a tally beside %s tells %v", which, certs(l))
		}
	}
}
