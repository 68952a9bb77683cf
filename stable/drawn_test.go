package stable

import (
	"fmt"
	"math/rand"
	"slices"
	"testing"

	"catenary/api"
)

// line is a vote that was counted.
type line struct {
	slot, signer int
	digest       string
}

// told is a tally as the chapter tells it: a row of votes, gone through from its beginning.
type told struct {
	n, cut int
	row    []line
}

// slots are those with votes, and how many those for a digest at one are.
func (m *told) slots() []int {
	var out []int
	for _, one := range m.row {
		if !slices.Contains(out, one.slot) {
			out = append(out, one.slot)
		}
	}
	return rising(out)
}

// signers are those of the votes for a digest at a slot, rising.
func (m *told) signers(slot int, digest string) []int {
	var out []int
	for _, one := range m.row {
		if one.slot == slot && one.digest == digest {
			out = append(out, one.signer)
		}
	}
	return rising(out)
}

// add tells what is to come of a vote that is right for what it is handed in for.
func (m *told) add(slot int, digest []byte, signer int) bool {
	if slot <= m.cut || slot > mostSlot || slot%period != 0 || signer >= m.n || len(digest) != 32 {
		return false
	}
	if slices.ContainsFunc(m.row, func(one line) bool { return one.slot == slot && one.signer == signer }) {
		return false
	}
	if has := m.slots(); !slices.Contains(has, slot) && len(has) >= most {
		return false
	}
	m.row = append(m.row, line{slot, signer, string(digest)})
	return len(m.signers(slot, string(digest))) == quorum(m.n)
}

// doCut lets all votes up to a slot go.
func (m *told) doCut(slot int) {
	m.cut = max(m.cut, slot)
	m.row = slices.DeleteFunc(m.row, func(one line) bool { return one.slot <= m.cut })
}

// cert is what is told of a slot.
func (m *told) cert(slot int) ([]byte, []api.Vote) {
	for _, d := range [][]byte{x(), y(), z()} {
		if s := m.signers(slot, string(d)); len(s) >= quorum(m.n) {
			return d, checks(slot, d, s[:quorum(m.n)]...)
		}
	}
	return nil, nil
}

// agrees asks that a tally tells at each slot with votes, and of all, what the model does.
func agrees(t *testing.T, what string, l *Tally, m *told) {
	t.Helper()
	var want []int
	for _, slot := range append(m.slots(), m.cut, 0) {
		digest, votes := m.cert(slot)
		if len(votes) > 0 {
			want = append(want, slot)
		}
		if got := spell(l.Cert(slot)); got != spell(digest, votes) {
			t.Fatalf("%s: Cert(%d) is %s; want %s", what, slot, got, spell(digest, votes))
		}
	}
	if got := l.Slots(); !slices.Equal(got, want) {
		t.Fatalf("%s: Slots are %v; want %v", what, got, want)
	}
}

func TestDrawnCalls(t *testing.T) { // P19.1, P19.2, P19.3: in any order, to two tallies side by side
	draw := rand.New(rand.NewSource(1))
	quorums, refused, full := 0, 0, 0
	for range 100 {
		n, wide := rightNs[draw.Intn(2)], []int{20, 60, 150, 400}[draw.Intn(4)]
		tallies, models := [2]*Tally{New(n), New(n)}, [2]told{{n: n}, {n: n}}
		for call := range 800 {
			which := draw.Intn(2)
			l, m := tallies[which], &models[which]
			if draw.Intn(60) == 0 {
				slot := m.cut + draw.Intn(16) - 8
				l.Cut(slot)
				m.doCut(slot)
			}
			slot, digest, signer := m.cut-4+draw.Intn(wide), [][]byte{x(), x(), x(), y(), z(), x()[1:]}[draw.Intn(6)], draw.Intn(n+1)
			if draw.Intn(4) > 0 {
				slot -= slot % period
			}
			had := len(m.row)
			full += truth(len(m.slots()) == most)
			want := m.add(slot, digest, signer)
			if got := l.Add(slot, digest, check(slot, digest, signer)); got != want {
				t.Fatalf("call %d: the vote of %d at slot %d: %v", call, signer, slot, got)
			}
			quorums += truth(want)
			refused += truth(len(m.row) == had)
			if call%20 == 0 || want {
				agrees(t, fmt.Sprintf("call %d", call), l, m)
			}
		}
	}
	if quorums < 500 || refused < 1000 || full < 1000 {
		t.Errorf("only %d quorums, %d votes that weren't counted, and %d calls to a full tally", quorums, refused, full)
	}
}
