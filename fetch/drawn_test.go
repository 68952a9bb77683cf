package fetch

import (
	"fmt"
	"math/rand"
	"slices"
	"strings"
	"testing"

	"catenary/api"
)

// told is a fetch as the chapter tells it: a row of the pieces that were taken.
type told struct {
	n, slot int
	row     []api.Msg
}

// want forgets all.
func (m *told) want(slot int) { *m = told{n: m.n, slot: max(slot, 0)} }

// add tells what is to come of a piece that is sealed by its replica.
func (m *told) add(p api.Msg) bool {
	if m.slot == 0 || p.Slot != m.slot || p.From >= m.n || p.Index >= p.Count || p.Count > most || len(p.Data) > size {
		return false
	}
	for _, other := range m.row {
		if other.From == p.From && (other.Count != p.Count || other.Index == p.Index) {
			return false
		}
	}
	m.row = append(m.row, p)
	return true
}

// state is what a replica has told as a whole.
func (m *told) state(who int) (string, bool) {
	var its []api.Msg
	for _, p := range m.row {
		if p.From == who {
			its = append(its, p)
		}
	}
	if len(its) == 0 || len(its) < its[0].Count {
		return "", false
	}
	slices.SortFunc(its, func(a, b api.Msg) int { return a.Index - b.Index })
	var out strings.Builder
	for _, p := range its {
		out.Write(p.Data)
	}
	return out.String(), true
}

// ready is what the first of those tells who have enough others at their side.
func (m *told) ready() (string, bool) {
	for who := range m.n {
		mine, whole := m.state(who)
		sides := 0
		for other := range m.n {
			its, all := m.state(other)
			sides += truth(whole && all && its == mine)
		}
		if sides >= weak(m.n) {
			return mine, true
		}
	}
	return "", false
}

// drawnPiece is one of few slots, replicas, counts and texts, so that many of them meet.
func drawnPiece(draw *rand.Rand, n, slot int) api.Msg {
	who, count := draw.Intn(n+1), 1+draw.Intn(3)
	if draw.Intn(3) > 0 {
		count = 2
	}
	index := draw.Intn(count + truth(draw.Intn(8) == 0))
	data := []string{"ab"[index%2 : index%2+1], "ab"[index%2 : index%2+1], "", "ab", strings.Repeat("c", size+truth(draw.Intn(9) == 0))}[draw.Intn(4+truth(draw.Intn(6) == 0))]
	return piece(slot+truth(draw.Intn(20) == 0), who, index, count, data)
}

func TestDrawnCalls(t *testing.T) { // P20.1, P20.2, P20.3: in any order, to two fetches side by side
	draw := rand.New(rand.NewSource(2))
	taken, refused, ready, asked := 0, 0, 0, 0
	for range 300 {
		n := rightNs[draw.Intn(3)]
		fetches, models := [2]*Fetch{New(n), New(n)}, [2]told{{n: n}, {n: n}}
		for call := range 200 {
			which := draw.Intn(2)
			f, m := fetches[which], &models[which]
			if draw.Intn(50) == 0 {
				slot := draw.Intn(12) - 1
				f.Want(slot)
				m.want(slot)
			}
			p := drawnPiece(draw, n, m.slot)
			if draw.Intn(10) == 0 {
				p = seal(p, (p.From+1)%n)
				refuses(t, "another's signature", f, p)
			}
			p = seal(p, p.From)
			want := m.add(p)
			if got := f.Add(p); got != want {
				t.Fatalf("call %d: %v is taken: %v", call, p, got)
			}
			taken += truth(want)
			refused += truth(!want)
			wants(t, fmt.Sprint("call ", call), f, m.slot)
			state, is := m.ready()
			if got, ok := f.Ready(); string(got) != state || ok != is {
				t.Fatalf("call %d: Ready is %.20q, %v; want %.20q, %v", call, got, ok, state, is)
			}
			asked++
			ready += truth(is)
		}
	}
	if taken < 5000 || refused < 5000 || ready < 3000 || asked-ready < 5000 {
		t.Errorf("only %d taken, %d refused, %d of %d ready", taken, refused, ready, asked)
	}
}
