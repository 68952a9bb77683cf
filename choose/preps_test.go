package choose

import (
	"bytes"
	"fmt"
	"math"
	"slices"
	"testing"

	"catenary/api"
)

// openLows are Lows of right reports, 0 among them.
var openLows = []int{0, 4, 8, 16, mostSlot - 4, mostSlot}

// lowReport is a right report of n with a Low, which may be 0, and no Preps.
func lowReport(n, low int) api.Report {
	if low == 0 {
		return bare()
	}
	return withLow(bare(), n, low)
}

// withSlots is the report with a Prep at each slot.
func withSlots(n int, r api.Report, slots ...int) api.Report {
	r.Preps = nil
	for _, slot := range slots {
		r.Preps = append(r.Preps, prep(n, slot, before[0], x()))
	}
	return sealed(r)
}

// mayStand tells whether Preps may be at these slots above low: each is looked for among those behind the last.
func mayStand(low int, slots []int) bool {
	left := from(low+1, open)
	for _, slot := range slots {
		i := slices.Index(left, slot)
		if i < 0 {
			return false
		}
		left = left[i+1:]
	}
	return true
}

func TestSlots(t *testing.T) { // P18.1: above Low, at most Low + Window
	far := []int{math.MinInt, -1 << 32, greatest, greatest + 1, 1 << 32, math.MaxInt}
	for _, n := range rightNs {
		for _, low := range openLows {
			for _, slot := range slices.Concat(far, []int{1<<32 + low + 1, low + 1 - 1<<32, -low - 1}, from(-3, 24), from(low-20, 60)) {
				is(t, fmt.Sprintf("slot %d above %d", slot, low), withSlots(n, lowReport(n, low), slot), n, low < slot && slot <= low+16)
			}
		}
	}
}

func TestRowsOfSlots(t *testing.T) { // P18.1: rising, and all of them open: all rows of up to 4 of these
	for _, low := range []int{0, 8, mostSlot} {
		slots := []int{low, low + 1, low + 2, low + 9, low + 16, low + 17}
		var try func(row []int)
		try = func(row []int) {
			is(t, fmt.Sprintf("slots %v above %d", row, low), withSlots(4, lowReport(4, low), row...), 4, mayStand(low, row))
			for _, slot := range slots {
				if len(row) < 4 {
					try(append(slices.Clone(row), slot))
				}
			}
		}
		try(nil)
	}
}

func TestManyPreps(t *testing.T) { // P18.1: up to one at each open slot
	for _, low := range openLows {
		row := func(slots ...int) api.Report { return withSlots(7, lowReport(7, low), slots...) }
		all := from(low+1, open)
		takes(t, "a Prep at each open slot", row(all...), 7)
		for i := range all {
			takes(t, fmt.Sprintf("all but Prep %d", i), row(slices.Delete(slices.Clone(all), i, i+1)...), 7)
			refuses(t, fmt.Sprintf("Prep %d twice", i), row(slices.Insert(slices.Clone(all), i, all[i])...))
			if i > 0 {
				swapped := slices.Clone(all)
				swapped[i], swapped[i-1] = swapped[i-1], swapped[i]
				refuses(t, fmt.Sprintf("Prep %d swapped", i), row(swapped...))
			}
		}
		refuses(t, "one more ahead", row(from(low, open+1)...))
		refuses(t, "one more behind", row(from(low+1, open+1)...))
		slices.Reverse(all)
		refuses(t, "Preps that fall", row(all...))
	}
}

func TestPrepBallots(t *testing.T) { // P18.1: below the report's
	rising := []api.Ballot{{}, {Turn: 1}, {Turn: greatest}, {View: 1}, {View: 1, Turn: 1}, {View: 4, Turn: 9}, {View: 5}, {View: 5, Turn: 1}, {View: 5, Turn: 2}, {View: 5, Turn: 3}, {View: 6}, {View: 6, Turn: 1}, {View: 1000001}, {View: greatest, Turn: greatest}}
	for i, b := range rising {
		for k, p := range rising {
			for at := range 3 {
				// The others' ballots are the lowest one, which none but its own is above.
				r := api.Report{Ballot: b, Replica: 2, Preps: []api.Prep{prep(4, 1, rising[0], x()), prep(4, 2, rising[0], x()), prep(4, 3, rising[0], x())}}
				r.Preps[at] = prep(4, 1+at, p, y())
				is(t, fmt.Sprintf("Prep %d of ballot %v in a report for %v", at, p, b), sealed(r), 4, i > 0 && k < i)
			}
		}
	}
}

// inEachPlace asks of each of the three Preps of the full report whether it may be another.
func inEachPlace(t *testing.T, what string, n int, want bool, change func(p *api.Prep)) {
	t.Helper()
	for at := range 3 {
		r := with(n, func(r *api.Report) { change(&r.Preps[at]) })
		if want {
			takes(t, fmt.Sprintf("Prep %d with %s", at, what), r, n)
		} else {
			refuses(t, fmt.Sprintf("Prep %d with %s", at, what), r)
		}
	}
}

// mayBe asks whether a request may be prepared, with the votes that show it.
func mayBe(t *testing.T, what string, r api.Req, want bool) {
	t.Helper()
	for _, n := range []int{4, 7} {
		inEachPlace(t, what, n, want, func(p *api.Prep) { *p = prep(n, p.Slot, p.Ballot, r) })
	}
}

func TestRequests(t *testing.T) { // P18.1: the zero request, and asked ones
	mayBe(t, "the zero request", api.Req{}, true)
	for client := -2; client < 40; client++ {
		mayBe(t, fmt.Sprintf("client %d", client), asked(api.Req{Client: client, Stamp: 3, Op: []byte("op")}), 1 <= client && client <= 4)
	}
	for _, stamp := range []int{math.MinInt, -1, 0, 1, 2, greatest, greatest + 1, 1 << 32, 1<<32 + 1, math.MaxInt} {
		mayBe(t, fmt.Sprintf("stamp %d", stamp), asked(api.Req{Client: 3, Stamp: stamp, Op: []byte("op")}), 1 <= stamp && stamp <= greatest)
	}
	for _, size := range []int{0, 1, 2, 255, 256, 257, 1000} {
		mayBe(t, fmt.Sprintf("an Op of %d bytes", size), asked(api.Req{Client: 3, Stamp: 3, Op: bytes.Repeat([]byte("o"), size)}), 1 <= size && size <= 256)
	}
}

func TestUnaskedRequests(t *testing.T) { // P18.1: with right votes, but nobody asked them
	for i, change := range []func(r *api.Req){
		func(r *api.Req) { r.Sig = nil },
		func(r *api.Req) { r.Sig = r.Sig[:31] },
		func(r *api.Req) { r.Sig = append(r.Sig, 0) },
		func(r *api.Req) { r.Sig[0] ^= 1 },
		func(r *api.Req) { r.Sig[31] ^= 128 },
		func(r *api.Req) { r.Sig = x().Sig },
		func(r *api.Req) { r.Client = 1 },
		func(r *api.Req) { r.Client = 0 },
		func(r *api.Req) { r.Stamp++ },
		func(r *api.Req) { r.Stamp = 0 },
		func(r *api.Req) { r.Op = []byte("yz") },
		func(r *api.Req) { r.Op = nil },
		func(r *api.Req) { *r = api.Req{Sig: r.Sig} },
	} {
		r := y()
		change(&r)
		mayBe(t, fmt.Sprintf("change %d behind its signature", i), r, false)
	}
	// No zero request, though it has no signature and does nothing either.
	for i, r := range []api.Req{{Client: 1}, {Stamp: 1}, {Op: []byte{0}}, {Sig: []byte{0}}, {Client: 1, Stamp: 1}, {Client: 4, Stamp: 1, Op: []byte("op")}, {Op: []byte("op")}} {
		mayBe(t, fmt.Sprintf("part %d of a request", i), r, false)
	}
	mayBe(t, "client 0, signed", asked(api.Req{}), false)
	mayBe(t, "the request", y(), true)
}

func TestCerts(t *testing.T) { // P18.1: votes of KChain, in the Prep's Ballot, for its Slot and its Req
	for _, n := range rightNs {
		r := full(n)
		for at, p := range r.Preps {
			for what, votes := range wrongCerts(n, chainKind, p.Ballot, p.Slot, body(p.Req)) {
				refuses(t, fmt.Sprintf("Cert %d with %s", at, what), with(n, func(r *api.Report) { r.Preps[at].Cert = votes }))
			}
			for other := range r.Preps {
				is(t, fmt.Sprintf("Cert %d of Prep %d", at, other), with(n, func(r *api.Report) { r.Preps[at].Cert = r.Preps[other].Cert }), n, at == other)
			}
			refuses(t, fmt.Sprintf("Cert %d that is Stable", at), with(n, func(r *api.Report) { r.Preps[at].Cert = r.Stable }))
		}
	}
}

func TestChangedBehindTheVotes(t *testing.T) { // P18.1: what a Prep tells is what its votes are for
	for what, change := range map[string]func(p *api.Prep){
		"a higher View":    func(p *api.Prep) { p.Ballot = api.Ballot{View: 4, Turn: 9} },
		"a higher Turn":    func(p *api.Prep) { p.Ballot = api.Ballot{View: 1, Turn: 9} },
		"another request":  func(p *api.Prep) { p.Req = z() },
		"another's Op":     func(p *api.Prep) { p.Req = asked(api.Req{Client: 2, Stamp: 7, Op: []byte("yz")}) },
		"another's Stamp":  func(p *api.Prep) { p.Req = asked(api.Req{Client: 2, Stamp: 8, Op: []byte("yy")}) },
		"another's Client": func(p *api.Prep) { p.Req = asked(api.Req{Client: 3, Stamp: 7, Op: []byte("yy")}) },
	} {
		inEachPlace(t, what+" behind its votes", 4, false, change)
		inEachPlace(t, what+" ahead of its votes", 4, true, func(p *api.Prep) {
			change(p)
			*p = prep(4, p.Slot, p.Ballot, p.Req)
		})
	}
	for at, slot := range []int{10, 13, 23} {
		refuses(t, "another slot behind its votes", with(4, func(r *api.Report) { r.Preps[at].Slot = slot }))
		takes(t, "another slot ahead of its votes", with(4, func(r *api.Report) { r.Preps[at] = prep(4, slot, r.Preps[at].Ballot, r.Preps[at].Req) }), 4)
	}
}
