package choose

import (
	"fmt"
	"math"
	"testing"

	"catenary/api"
)

// at is a Prep that nothing shows.
func at(slot int, b api.Ballot, name string) api.Prep {
	return api.Prep{Slot: slot, Ballot: b, Req: named(name)}
}

// named is a request, told from others by its Op; without a name it is the zero request.
func named(name string) api.Req {
	if name == "" {
		return api.Req{}
	}
	return api.Req{Client: 3, Stamp: 5, Op: []byte(name), Sig: []byte("asked " + name)}
}

// above is a report that nobody signed.
func above(low int, preps ...api.Prep) api.Report { return api.Report{Low: low, Preps: preps} }

// sameReq: are all fields of two requests the same?
func sameReq(a, b api.Req) bool {
	return a.Client == b.Client && a.Stamp == b.Stamp && string(a.Op) == string(b.Op) && string(a.Sig) == string(b.Sig)
}

// tells asks for the Low, the High and the Picks of reports, the Picks by their names.
func tells(t *testing.T, what string, l []api.Report, low, high int, picks ...string) {
	t.Helper()
	if got := Low(l...); got != low {
		t.Errorf("%s: Low %d, not %d", what, got, low)
	}
	if got := High(l...); got != high {
		t.Errorf("%s: High %d, not %d", what, got, high)
	}
	got := Picks(l...)
	if len(got) != len(picks) {
		t.Errorf("%s: %d Picks, not %d: %v", what, len(got), len(picks), got)
		return
	}
	for i, r := range got {
		if !sameReq(r, named(picks[i])) {
			t.Errorf("%s: pick %d is %v, not %q", what, i, r, picks[i])
		}
		picksOne(t, what, low+1+i, l, picks[i])
	}
}

// picksOne asks for the request of one slot.
func picksOne(t *testing.T, what string, slot int, l []api.Report, name string) {
	t.Helper()
	if got := Pick(slot, l...); !sameReq(got, named(name)) {
		t.Errorf("%s: Pick of %d is %v, not %q", what, slot, got, name)
	}
}

var (
	one = api.Ballot{View: 1, Turn: 3}
	two = api.Ballot{View: 2, Turn: 1}
)

func TestExample(t *testing.T) { // the chapter's example
	l := []api.Report{above(0), above(4, at(6, one, "it"))}
	tells(t, "the example", l, 4, 6, "", "it")
	tells(t, "with its Prep in the other report", []api.Report{above(0, at(6, one, "it")), above(4)}, 4, 6, "", "it")
}

func TestNoReports(t *testing.T) { // P18.3
	for _, l := range [][]api.Report{nil, {}, make([]api.Report, 0, 9), {{}}, {{}, {}}, {above(0), above(-4), above(math.MinInt)}} {
		what := fmt.Sprintf("%v", l)
		tells(t, what, l, 0, 0)
		for _, slot := range []int{math.MinInt, -1, 0, 1, 4, math.MaxInt} {
			picksOne(t, what, slot, l, "")
		}
	}
}

func TestLow(t *testing.T) { // P18.3: the greatest, wherever it stands, right or not
	for _, low := range []int{1, 2, 4, 7, 12, mostSlot, mostSlot + 4, greatest, 1 << 32, math.MaxInt - 1, math.MaxInt} {
		for _, lower := range []int{low, low - 1, 0, -1, math.MinInt} {
			for place := range 4 {
				l := []api.Report{above(lower), above(lower), above(lower), above(lower)}
				l[place].Low = low
				tells(t, fmt.Sprintf("Low %d at %d behind %d", low, place, lower), l, low, low)
			}
		}
		tells(t, fmt.Sprintf("Low %d alone", low), []api.Report{above(low)}, low, low)
		tells(t, fmt.Sprintf("Low -%d alone", low), []api.Report{above(-low)}, 0, 0)
	}
}

func TestLowBelowZero(t *testing.T) { // P18.3: such reports' Preps count all the same
	l := []api.Report{above(-8, at(-7, one, "below"), at(0, one, "zero"), at(1, one, "first")), above(math.MinInt, at(3, one, "third"))}
	tells(t, "Lows below 0", l, 0, 3, "first", "", "third")
	picksOne(t, "Lows below 0", -7, l, "below")
	picksOne(t, "Lows below 0", 0, l, "zero")
	picksOne(t, "Lows below 0", -8, l, "")
}

func TestHigh(t *testing.T) { // P18.3: the greatest Slot, in whichever report and at whichever place, but at least Low
	for place := range 9 {
		l := []api.Report{above(4), above(0), above(0)}
		for i := range 9 {
			p := at(5, one, "five")
			if i == place {
				p = at(7, one, "seven")
			}
			l[i/3].Preps = append(l[i/3].Preps, p)
		}
		tells(t, fmt.Sprintf("the greatest Slot at %d", place), l, 4, 7, "five", "", "seven")
	}
	for _, slot := range []int{math.MinInt, -9, -1, 0, 1, 4, 7, 8} {
		l := []api.Report{above(8), above(0, at(slot, one, "low"))}
		tells(t, fmt.Sprintf("a Slot %d that isn't above Low", slot), l, 8, 8)
		picksOne(t, "it", slot, l, "low")
	}
	tells(t, "a Slot above all Lows, of the report with the least", []api.Report{above(8), above(4, at(9, one, "nine"))}, 8, 9, "nine")
	tells(t, "Slots below 0", []api.Report{above(0, at(-1, one, "a"), at(math.MinInt, two, "b"))}, 0, 0)
}

func TestPickOfHighestBallot(t *testing.T) { // P18.3: by the View, then by the Turn; of equal ones the first in order
	rising := []api.Ballot{
		{View: math.MinInt, Turn: math.MinInt}, {View: math.MinInt, Turn: math.MaxInt}, {View: -1, Turn: 7}, {Turn: math.MinInt}, {Turn: -1}, {}, {Turn: 9},
		{View: 1}, {View: 1, Turn: 1}, {View: 1, Turn: 2}, {View: 1, Turn: 1<<32 + 1}, {View: 2}, {View: 2, Turn: 1},
		{View: 1 << 32}, {View: 1<<32 + 1}, {View: math.MaxInt, Turn: math.MinInt}, {View: math.MaxInt, Turn: math.MaxInt},
	}
	for i, first := range rising {
		for k, second := range rising {
			want := "first"
			if k > i {
				want = "second"
			}
			what := fmt.Sprintf("ballots %v and %v", first, second)
			tells(t, what+" of two reports", []api.Report{above(0, at(1, first, "first")), above(0, at(1, second, "second"))}, 0, 1, want)
			tells(t, what+" of one report", []api.Report{above(0, at(1, first, "first"), at(1, second, "second"))}, 0, 1, want)
			tells(t, what+" with others ahead", []api.Report{above(0), above(0, at(2, two, "other"), at(1, first, "first")), above(0, at(0, two, "none"), at(1, second, "second"))}, 0, 2, want, "other")
			tells(t, what+" for no request and one", []api.Report{above(0, at(1, first, "")), above(0, at(1, second, "second"))}, 0, 1, map[string]string{"first": "", "second": "second"}[want])
			tells(t, what+" for one and no request", []api.Report{above(0, at(1, first, "first")), above(0, at(1, second, ""))}, 0, 1, map[string]string{"first": "first", "second": ""}[want])
		}
		tells(t, fmt.Sprintf("ballot %v alone", first), []api.Report{above(0, at(1, first, "alone"))}, 0, 1, "alone")
	}
}

func TestPickOfEqualBallots(t *testing.T) { // P18.3: the first in order, the reports' and then the Preps'
	names := []string{"a", "b", "c", "d"}
	for _, cut := range []int{0, 1, 2, 3, 4} {
		for highest := range names {
			var preps []api.Prep
			for i, name := range names {
				// From the highest one on all ballots are equal.
				b := two
				if i < highest {
					b = one
				}
				preps = append(preps, at(3, b, name))
			}
			l := []api.Report{above(0), above(0, preps[:cut]...), above(0, preps[cut:]...)}
			tells(t, fmt.Sprintf("equal ballots from %d on, cut at %d", highest, cut), l, 0, 3, "", "", names[highest])
		}
	}
}

func TestPickCountsNothingElse(t *testing.T) { // P18.3: neither the Low, the Ballot nor the Replica of a report, nor the Cert
	l := []api.Report{
		{Ballot: api.Ballot{View: 9}, Replica: 7, Low: 4, Preps: []api.Prep{{Slot: 5, Ballot: one, Req: named("loud"), Cert: make([]api.Vote, 9)}}},
		{Replica: 1, Preps: []api.Prep{{Slot: 5, Ballot: two, Req: named("quiet")}}},
		{Ballot: api.Ballot{View: 9}, Low: -4, Replica: -1, Digest: digest(), Preps: []api.Prep{{Slot: 5, Ballot: two, Req: named("late")}}},
	}
	tells(t, "reports of all kinds", l, 4, 5, "quiet")
}

func TestPickOfOtherSlots(t *testing.T) { // P18.3: of any slot, those that aren't above Low too
	slots := []int{math.MinInt, math.MinInt + 1, -1 << 32, -5, -1, 0, 1, 2, 8, 9, 24, 25, 1 << 32, 1<<32 + 9, math.MaxInt - 1, math.MaxInt}
	var l []api.Report
	for i, slot := range slots {
		l = append(l, above(8*(i%2), at(slot, one, fmt.Sprint(slot))))
	}
	for _, slot := range slots {
		picksOne(t, "slots of all kinds", slot, l, fmt.Sprint(slot))
	}
	for _, slot := range []int{math.MinInt + 2, -1<<32 + 1, -6, -2, 3, 7, 10, 23, 26, 1<<32 - 1, 1<<32 + 1, math.MaxInt - 2} {
		picksOne(t, "slots of all kinds", slot, l, "")
	}
}

func TestManyPicks(t *testing.T) { // P18.3: from Low + 1 on, no more than Window, though High is above
	for _, low := range []int{0, 4, mostSlot, math.MaxInt - 40} {
		for many := range 40 {
			var preps []api.Prep
			var names []string
			for i := range many {
				names = append(names, fmt.Sprint("p", i))
				preps = append(preps, at(low+1+i, one, names[i]))
			}
			tells(t, fmt.Sprintf("%d Preps above %d", many, low), []api.Report{above(low), above(0, preps...)}, low, low+many, names[:min(many, open)]...)
			if many > 0 {
				names = append(make([]string, many-1), names[many-1])
				tells(t, fmt.Sprintf("the last of %d Preps above %d", many, low), []api.Report{above(low, preps[many-1])}, low, low+many, names[:min(many, open)]...)
			}
		}
	}
}

func TestGreatestSlots(t *testing.T) { // P18.3: at the end of the numbers
	top := math.MaxInt
	tells(t, "Low at the greatest", []api.Report{above(top, at(top, one, "top"), at(math.MinInt, two, "least"))}, top, top)
	tells(t, "Low at the greatest, Slots at the least", []api.Report{above(top), above(math.MinInt, at(math.MinInt, one, "least"))}, top, top)
	tells(t, "Low below the greatest", []api.Report{above(top-1, at(top, one, "top"))}, top-1, top, "top")
	for below := range 20 {
		names := make([]string, below)
		if below > 0 {
			names[below-1] = "top"
		}
		tells(t, fmt.Sprintf("Low %d below the greatest", below), []api.Report{above(top - below), above(0, at(top, one, "top"))}, top-below, top, names[:min(below, open)]...)
	}
	tells(t, "all slots above 0", []api.Report{above(0, at(top, one, "top"), at(1, two, "first"))}, 0, top, append([]string{"first"}, make([]string, 15)...)...)
	l := []api.Report{above(math.MinInt, at(math.MinInt, one, "least"), at(top, two, "top"))}
	tells(t, "all slots", l, 0, top, make([]string, 16)...)
	picksOne(t, "all slots", math.MinInt, l, "least")
	picksOne(t, "all slots", top, l, "top")
}

func TestChoiceOfRightReports(t *testing.T) { // P18.3: with what All takes
	for _, n := range rightNs {
		l := []api.Report{}
		for i := range quorum(n) {
			l = append(l, sealed(api.Report{Ballot: now, Replica: i + 1}))
		}
		l[0] = full(n)
		l[0].Replica = 1
		l[0] = sealed(l[0])
		l[1].Preps = []api.Prep{prep(n, 9, before[1], y()), prep(n, 12, before[0], z())}
		l[1] = sealed(l[1])
		all(t, "these reports", now, l, n, true)
		if Low(l...) != 8 || High(l...) != 24 {
			t.Errorf("Low %d, High %d", Low(l...), High(l...))
		}
		want := make([]api.Req, 16)
		want[0], want[3], want[15] = x(), z(), y()
		for i, r := range Picks(l...) {
			if !sameReq(r, want[i]) {
				t.Errorf("pick %d is %v, not %v", i, r, want[i])
			}
		}
	}
}
