package window

import (
	"fmt"
	"math/rand"
	"slices"
	"testing"

	"catenary/api"
)

// told is a window as the chapter tells it: rows, gone through from the beginning.
type told struct {
	low  int
	rows []row
}

// at is the row of a slot; it is put where it belongs if it isn't there.
func (m *told) at(slot int) *row {
	i := 0
	for i < len(m.rows) && m.rows[i].slot < slot {
		i++
	}
	if i == len(m.rows) || m.rows[i].slot != slot {
		m.rows = slices.Insert(m.rows, i, row{slot: slot})
	}
	return &m.rows[i]
}

// spelt writes a request out, so that two can be held against each other.
func spelt(r api.Req) string { return fmt.Sprintf("%d %d %q %q", r.Client, r.Stamp, r.Op, r.Sig) }

// weigh is the rule of Vote and Prep.
func weigh(has bool, was api.Ballot, old api.Req, b api.Ballot, r api.Req) int {
	higher := b.View > was.View || b.View == was.View && b.Turn > was.Turn
	if has && !higher && (b != was || spelt(old) != spelt(r)) {
		return refused
	}
	return 0
}

// do is what a call is to answer, and what is known behind it.
func (m *told) do(call ask, b api.Ballot, slot int, r api.Req, votes []api.Vote) int {
	if !isOpen(slot, m.low) {
		return refused
	}
	at, answer := m.at(slot), 0
	switch call.name {
	case "Vote":
		answer = weigh(at.HasVote, at.Voted, at.Vote, b, r)
	case "Prep":
		answer = weigh(at.HasPrep, at.Prepared, at.Prep, b, r)
	case "Done":
		if at.HasDone && spelt(at.Done) != spelt(r) {
			return refused
		}
		if at.HasDone {
			return 0
		}
	}
	if answer == 0 {
		at.Slot = call.put(at.Slot, b, r, votes...)
	}
	return answer
}

func (m *told) cut(low int) {
	if low > m.low && low <= mostSlot {
		m.low, m.rows = low, above(low, m.rows)
	}
}

func TestDrawnCalls(t *testing.T) { // P17.1, P17.2, P17.3: in any order, to two windows side by side
	draw := rand.New(rand.NewSource(17))
	answered := map[int]int{}
	for range 25 {
		low := []int{0, 4, mostSlot - 10}[draw.Intn(3)]
		windows, models := [2]*Window{New(low), New(low)}, [2]told{{low: low}, {low: low}}
		for call := range 120 {
			which := draw.Intn(2)
			w, m := windows[which], &models[which]
			if draw.Intn(15) == 0 {
				cut := m.low + draw.Intn(10) - 3
				w.Cut(cut)
				m.cut(cut)
			}
			a, b := asks()[draw.Intn(3)], api.Ballot{View: draw.Intn(2), Turn: draw.Intn(2)}
			slot, r, votes := m.low+draw.Intn(19)-1, others()[draw.Intn(3)], certs()[draw.Intn(5)]
			what := fmt.Sprintf("call %d: %s of %v at %d in %v", call, a.name, r, slot, b)
			want := m.do(a, b, slot, r, votes)
			answered[want]++
			answers(t, what, a.do(w, b, slot, r, votes...), want)
			holds(t, what, w, m.low, m.rows...)
		}
		for i, w := range windows {
			holds(t, "in the end", w, models[i].low, models[i].rows...)
		}
	}
	if answered[0] < 500 || answered[refused] < 500 {
		t.Errorf("answers were %v", answered)
	}
}

func TestNeverTwoVotes(t *testing.T) { // P17.4: whatever is tried, at one slot of one ballot there are no votes for two requests, nor one below an earlier one
	draw := rand.New(rand.NewSource(174))
	for range 100 {
		w, last := New(0), map[int]api.Slot{}
		for range 400 {
			if draw.Intn(20) == 0 {
				w.Cut(draw.Intn(30))
			}
			slot, b, r := draw.Intn(40)-2, api.Ballot{View: draw.Intn(3), Turn: draw.Intn(3)}, others()[10+draw.Intn(4)]
			w.Prep(api.Ballot{View: draw.Intn(3)}, slot, others()[draw.Intn(4)])
			w.Done(api.Ballot{View: draw.Intn(3)}, slot, others()[draw.Intn(4)])
			if w.Vote(b, slot, r) != api.OK {
				continue
			}
			was, voted := last[slot], last[slot].HasVote
			if voted && (b.View < was.Voted.View || b.View == was.Voted.View && b.Turn < was.Voted.Turn) {
				t.Fatalf("at %d a vote in %v behind one in %v", slot, b, was.Voted)
			}
			if voted && b == was.Voted && spelt(r) != spelt(was.Vote) {
				t.Fatalf("at %d of %v votes for %v and %v", slot, b, was.Vote, r)
			}
			last[slot] = api.Slot{HasVote: true, Voted: b, Vote: r}
		}
	}
}
