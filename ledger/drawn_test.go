package ledger

import (
	"bytes"
	"fmt"
	"math/rand"
	"testing"

	"catenary/api"
)

// told is a ledger as the chapter tells it: a row of votes, gone through from its beginning.
type told struct {
	row []line
}

type line struct {
	paper
	signer int
	req    api.Req
	twice  bool
}

// find is the line of a paper and signer, or nil.
func (m *told) find(p paper, signer int) *line {
	for i := range m.row {
		if one := &m.row[i]; one.paper == p && one.signer == signer {
			return one
		}
	}
	return nil
}

// note tells what is to come of right votes.
func (m *told) note(p paper, r api.Req, signers []int) []api.Msg {
	var out []api.Msg
	if p.kind != 2 && p.kind != 3 {
		return nil
	}
	for _, s := range signers {
		had := m.find(p, s)
		switch {
		case had == nil:
			m.row = append(m.row, line{p, s, r, false})
		case !bytes.Equal(body(had.req), body(r)) && !had.twice:
			had.twice = true
			first, second := firstOf(had.req, r)
			out = append(out, p.evidence(s, first, second))
		}
	}
	return out
}

// cut lets all lines up to a slot go.
func (m *told) cut(slot int) {
	var left []line
	for _, one := range m.row {
		if one.slot > slot {
			left = append(left, one)
		}
	}
	m.row = left
}

// drawnPaper is one of few, so that the same is met often.
func drawnPaper(draw *rand.Rand) paper {
	return paper{[]int{2, 2, 2, 3, 3, 3, 4}[draw.Intn(7)], api.Ballot{View: draw.Intn(2), Turn: draw.Intn(2)}, draw.Intn(6)}
}

// drawnVotes are of some signers, among them votes that aren't right; right are those that are.
func drawnVotes(draw *rand.Rand, p paper, r api.Req) (votes []api.Vote, right []int) {
	for range draw.Intn(5) {
		s := draw.Intn(5)
		if draw.Intn(4) == 0 {
			votes = append(votes, p.at(p.slot+1).vote(r, s))
			continue
		}
		votes, right = append(votes, p.vote(r, s)), append(right, s)
	}
	return votes, right
}

func TestDrawnCalls(t *testing.T) { // P15.1, P15.2: in any order, to two ledgers side by side
	draw := rand.New(rand.NewSource(15))
	evidences := 0
	for range 200 {
		ledgers, models := [2]*Ledger{New(), New()}, [2]told{}
		for call := range 150 {
			which := draw.Intn(2)
			l, m := ledgers[which], &models[which]
			if draw.Intn(12) == 0 {
				slot := draw.Intn(8) - 1
				l.Cut(slot)
				m.cut(slot)
			}
			p, r := drawnPaper(draw), rising()[24+draw.Intn(4)]
			votes, right := drawnVotes(draw, p, r)
			want := m.note(p, r, right)
			evidences += len(want)
			tells(t, fmt.Sprintf("call %d: %v of %v for %v", call, p, right, r), l, p.give(l, r, votes...), len(m.row), want...)
			holds(t, "the other ledger", ledgers[1-which], len(models[1-which].row))
		}
	}
	if evidences < 1000 {
		t.Errorf("only %d evidences were to be told", evidences)
	}
}
