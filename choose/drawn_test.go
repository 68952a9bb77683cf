package choose

import (
	"cmp"
	"fmt"
	"math"
	"math/rand"
	"slices"
	"testing"

	"catenary/api"
)

// drawnReports are of few slots and ballots, so that the same are met often; some are at the ends of the numbers.
func drawnReports(draw *rand.Rand) []api.Report {
	base := []int{0, 0, 4, -9, mostSlot, math.MaxInt - 25, math.MinInt + 9}[draw.Intn(7)]
	var out []api.Report
	for range draw.Intn(6) {
		r := above(base + draw.Intn(9))
		for range draw.Intn(7) {
			b := api.Ballot{View: draw.Intn(3) - 1, Turn: draw.Intn(3) - 1}
			r.Preps = append(r.Preps, at(base+draw.Intn(26), b, []string{"", "a", "b", "c", "d", "e"}[draw.Intn(6)]))
		}
		out = append(out, r)
	}
	return out
}

// chosen is what the chapter tells of reports: the Low, the High, and the request of each slot.
func chosen(l []api.Report) (low, high int, pick func(slot int) api.Req) {
	lows, slots := []int{0}, []int{}
	bySlot := map[int][]api.Prep{}
	for _, r := range l {
		lows = append(lows, r.Low)
		for _, p := range r.Preps {
			slots = append(slots, p.Slot)
			bySlot[p.Slot] = append(bySlot[p.Slot], p)
		}
	}
	low = slices.Max(lows)
	return low, slices.Max(append(slots, low)), func(slot int) api.Req {
		preps := bySlot[slot]
		// The highest comes first, and equal ones stay in order.
		slices.SortStableFunc(preps, func(a, b api.Prep) int {
			return cmp.Or(cmp.Compare(b.Ballot.View, a.Ballot.View), cmp.Compare(b.Ballot.Turn, a.Ballot.Turn))
		})
		for _, p := range preps {
			return p.Req
		}
		return api.Req{}
	}
}

func TestDrawnChoices(t *testing.T) { // P18.3
	draw := rand.New(rand.NewSource(18))
	counts := map[string]int{}
	for range 5000 {
		l := drawnReports(draw)
		low, high, pick := chosen(l)
		var names []string
		for slot := low; slot < high && len(names) < 16; slot++ {
			names = append(names, string(pick(slot+1).Op))
		}
		tells(t, fmt.Sprint(l), l, low, high, names...)
		for range 5 {
			slot := low + draw.Intn(30) - 10
			picksOne(t, fmt.Sprint(l), slot, l, string(pick(slot).Op))
		}
		counts[fmt.Sprint("of ", min(len(names), 1)+len(names)/16)]++
	}
	if len(counts) != 3 {
		t.Errorf("picks were %v", counts)
	}
}

// flaws are changes of a full report of n: those ahead of the place that is told leave it right, the others do not.
func flaws(n int) (changes []func(r *api.Report), wrong int) {
	right := []func(r *api.Report){
		func(r *api.Report) {},
		func(r *api.Report) { r.Ballot.View += 3 },
		func(r *api.Report) { r.Ballot.Turn += 2 },
		func(r *api.Report) { r.Replica = n - 1 },
		func(r *api.Report) { r.Replica = 0 },
		func(r *api.Report) { r.Preps[1] = prep(n, r.Preps[1].Slot, r.Preps[1].Ballot, z()) },
		func(r *api.Report) { r.Preps[0] = prep(n, r.Preps[0].Slot, api.Ballot{View: 2}, api.Req{}) },
		func(r *api.Report) { r.Preps[2] = prep(n, r.Low+15, r.Preps[2].Ballot, r.Preps[2].Req) },
		func(r *api.Report) { r.Preps[2].Cert = slices.Clone(r.Preps[2].Cert) },
	}
	return append(right,
		func(r *api.Report) { r.Replica = n },
		func(r *api.Report) { r.Low += 2 },
		func(r *api.Report) { r.Digest = r.Digest[:31] },
		func(r *api.Report) { r.Stable = r.Stable[:len(r.Stable)-1] },
		func(r *api.Report) { r.Stable[1].Sig = nil },
		func(r *api.Report) { r.Preps[1].Slot = r.Preps[0].Slot },
		func(r *api.Report) { r.Preps[2].Slot = r.Low + 17 },
		func(r *api.Report) { r.Preps[0].Ballot.View = 9 },
		func(r *api.Report) { r.Preps[1].Req = api.Req{Client: 1, Stamp: 2} },
		func(r *api.Report) { r.Preps[2].Cert = nil },
	), len(right)
}

func TestDrawnReports(t *testing.T) { // P18.1, P18.2: right with any right changes, not right with a wrong one among them
	draw := rand.New(rand.NewSource(181))
	answered := map[bool]int{}
	for range 1500 {
		n := rightNs[draw.Intn(len(rightNs))]
		changes, wrong := flaws(n)
		want := true
		r := with(n, func(r *api.Report) {
			for range draw.Intn(5) {
				// A wrong one only now and then, and last: what is changed behind it could mend it.
				changes[draw.Intn(wrong)](r)
			}
			if draw.Intn(2) == 0 {
				changes[wrong+draw.Intn(len(changes)-wrong)](r)
				want = false
			}
		})
		answered[want]++
		is(t, fmt.Sprintf("%+v", r), r, n, want)
		l := reports(n, from(0, n)...)
		l = slices.DeleteFunc(l, func(other api.Report) bool { return other.Replica == r.Replica })[:quorum(n)-1]
		for i := range l {
			l[i].Ballot = r.Ballot
			l[i] = sealed(l[i])
		}
		l = append(l, r)
		slices.SortFunc(l, func(a, b api.Report) int { return cmp.Compare(a.Replica, b.Replica) })
		all(t, fmt.Sprintf("with the report %+v", r), r.Ballot, l, n, want)
	}
	if answered[true] < 500 || answered[false] < 500 {
		t.Errorf("answers were %v", answered)
	}
}
