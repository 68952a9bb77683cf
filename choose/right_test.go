package choose

import (
	"bytes"
	"fmt"
	"math"
	"slices"
	"strings"
	"testing"

	"catenary/api"
	"catenary/vote"
)

// rightReports are of a replica of n: at Low 0 and above it, with and without Preps, with Preps of the zero request and of asked ones.
func rightReports(n, replica int) map[string]api.Report {
	out := map[string]api.Report{}
	for _, low := range []int{0, 4, 8, mostSlot} {
		r := api.Report{Ballot: now, Replica: replica}
		if low > 0 {
			r = withLow(r, n, low)
		}
		all := []api.Prep{prep(n, low+1, before[0], x()), prep(n, low+2, before[1], api.Req{}), prep(n, low+open, before[2], z())}
		for name, preps := range map[string][]api.Prep{"no Preps": nil, "the zero request": all[1:2], "an asked request": all[:1], "Preps": all} {
			r.Preps = preps
			out[fmt.Sprintf("a report with Low %d and %s", low, name)] = sealed(r)
		}
	}
	return out
}

func TestRightReports(t *testing.T) { // P18.1
	for _, n := range rightNs {
		for replica := range n {
			for what, r := range rightReports(n, replica) {
				takes(t, fmt.Sprintf("%s of replica %d", what, replica), r, n)
			}
		}
		takes(t, "the full report", full(n), n)
		takes(t, "the bare report", bare(), n)
	}
}

func TestNilAndEmptyAreOne(t *testing.T) { // DOC.md's rules
	empty := bare()
	empty.Digest, empty.Stable, empty.Preps = []byte{}, []api.Vote{}, []api.Prep{}
	takes(t, "a report with empty lists", empty, 4)
	r := with(4, func(r *api.Report) { r.Preps[1].Req.Op, r.Preps[1].Req.Sig = []byte{}, make([]byte, 0, 5) })
	takes(t, "a zero request with empty lists", r, 4)
	r.Digest = append(make([]byte, 0, 99), r.Digest...)
	r.Stable = append(make([]api.Vote, 0, 99), r.Stable...)
	r.Preps = append(make([]api.Prep, 0, 99), r.Preps...)
	takes(t, "a report with spare room", r, 4)
}

func TestOtherNs(t *testing.T) { // P18.1: of an n that isn't right no report is, and of another one none with votes
	for _, n := range rightNs {
		for what, r := range rightReports(n, 3) {
			for _, other := range rightNs {
				is(t, what, r, other, other == n || len(r.Stable)+len(r.Preps) == 0)
			}
			for _, other := range wrongNs() {
				is(t, what, r, other, false)
			}
		}
		for _, change := range []func(r *api.Report){
			func(r *api.Report) { r.Stable, r.Preps = nil, nil },
			func(r *api.Report) {
				r.Low, r.Digest, r.Stable, r.Preps = 0, nil, nil, r.Preps[:1]
				r.Preps[0].Slot, r.Preps[0].Cert = 1, nil
			},
		} {
			for _, other := range append(wrongNs(), rightNs...) {
				is(t, "a report without votes where some are owed", with(n, change), other, false)
			}
		}
	}
}

func TestReplicas(t *testing.T) { // P18.1: from 0 to n - 1, each by its own seal
	strangers := []int{math.MinInt, -1 << 32, -1<<32 + 2, -16, greatest, greatest + 1, 1 << 32, 1<<32 + 2, math.MaxInt}
	for _, replica := range append(strangers, from(-3, 140)...) {
		what := fmt.Sprintf("replica %d", replica)
		for _, n := range rightNs {
			r := bare()
			r.Replica = replica
			is(t, what, sealed(r), n, 0 <= replica && replica < n)
			is(t, what+", full", with(n, func(r *api.Report) { r.Replica = replica }), n, 0 <= replica && replica < n)
			is(t, what+" with the Sig of replica 2", but(n, func(r *api.Report) { r.Replica = replica }), n, replica == 2)
			r.Sig = nil
			is(t, what+" without a Sig", r, n, false)
		}
	}
}

func TestBallots(t *testing.T) { // P18.1: nothing is asked of the report's ballot but that it can be written
	views := []int{math.MinInt, -1 << 32, -1, 0, 1, 6, 1000000, 1000001, greatest - 1, greatest, greatest + 1, 1 << 32, 1<<32 + 5, math.MaxInt}
	for _, view := range views {
		for _, turn := range views {
			r := bare()
			r.Ballot = api.Ballot{View: view, Turn: turn}
			is(t, fmt.Sprintf("ballot %d %d", view, turn), sealed(r), 4, 0 <= view && view <= greatest && 0 <= turn && turn <= greatest)
		}
	}
}

// wrongSigs are none of replica 2's for a report, each by what is wrong with them.
func wrongSigs(r api.Report) map[string][]byte {
	right := sealed(r).Sig
	m := api.Msg{Kind: reportKind, Reports: []api.Report{r}}
	two := api.Msg{Kind: reportKind, Reports: []api.Report{r, r}}
	unsigned := r
	unsigned.Sig = nil
	out := map[string][]byte{
		"missing":              nil,
		"empty":                {},
		"zeros":                make([]byte, 32),
		"cut short":            right[:31],
		"without its first":    right[1:],
		"a byte longer":        append(bytes.Clone(right), 0),
		"a byte more ahead":    append([]byte{0}, right...),
		"twice":                append(bytes.Clone(right), right...),
		"very long":            bytes.Repeat(right, 2048),
		"too long":             bytes.Repeat(right, 2049),
		"of a message":         sign(2, "message", spell(unsigned)),
		"in the votes' domain": sign(2, "vote", spell(unsigned)),
		"of the client's key":  sign(102, "report", spell(unsigned)),
		"of the bytes with it": sign(2, "report", spell(sealed(r))),
		"of no bytes":          sign(2, "report", nil),
		"of no text":           sign(2, "report"),
		"of two reports":       vote.Seal(two, 2).Sig,
		"of a new ballot":      vote.Seal(api.Msg{Kind: 9, Ballot: r.Ballot, Order: from(0, 4), Reports: m.Reports}, 2).Sig,
	}
	for i := range right {
		turned := bytes.Clone(right)
		turned[i] ^= 1 << (i % 8)
		out[fmt.Sprintf("with byte %d turned", i)] = turned
	}
	for replica := range replicas + 4 {
		if replica != 2 {
			out[fmt.Sprintf("of replica %d", replica)] = sealedBy(r, replica).Sig
			r := r
			r.Replica = replica
			out[fmt.Sprintf("of replica %d's own report", replica)] = sealed(r).Sig
		}
	}
	return out
}

func TestWrongSigs(t *testing.T) { // P18.1
	for _, r := range []api.Report{bare(), full(4), full(7)} {
		for what, sig := range wrongSigs(r) {
			r.Sig = sig
			refuses(t, "the Sig "+what, r)
		}
	}
}

// rightChanges make another right report of the full one of n.
func rightChanges(n int) map[string]func(r *api.Report) {
	return map[string]func(r *api.Report){
		"a higher View":   func(r *api.Report) { r.Ballot.View++ },
		"a higher Turn":   func(r *api.Report) { r.Ballot.Turn++ },
		"another Replica": func(r *api.Report) { r.Replica = 1 },
		"nothing stable":  func(r *api.Report) { r.Low, r.Digest, r.Stable, r.Preps = 0, nil, nil, r.Preps[:2] },
		"a higher Low":    func(r *api.Report) { *r = withLow(*r, n, 12); r.Preps = r.Preps[2:] },
		"a lower Low":     func(r *api.Report) { *r = withLow(*r, n, 4); r.Preps = r.Preps[:2] },
		"another Digest":  func(r *api.Report) { r.Digest[31]++; r.Stable = cert(n, checkKind, api.Ballot{}, 8, r.Digest) },
		"others' Stable":  func(r *api.Report) { r.Stable = votes(checkKind, api.Ballot{}, 8, r.Digest, from(0, quorum(n))...) },
		"no Preps":        func(r *api.Report) { r.Preps = nil },
		"a Prep less":     func(r *api.Report) { r.Preps = r.Preps[:2] },
		"the first less":  func(r *api.Report) { r.Preps = r.Preps[1:] },
		"a Prep more":     func(r *api.Report) { r.Preps = slices.Insert(r.Preps, 1, prep(n, 10, before[0], z())) },
		"another Slot":    func(r *api.Report) { r.Preps[0] = prep(n, 10, before[0], x()) },
		"another View":    func(r *api.Report) { r.Preps[1] = prep(n, 12, api.Ballot{View: 3, Turn: 7}, api.Req{}) },
		"another Turn":    func(r *api.Report) { r.Preps[1] = prep(n, 12, api.Ballot{View: 4, Turn: 8}, api.Req{}) },
		"another Req":     func(r *api.Report) { r.Preps[0] = prep(n, 9, before[0], y()) },
		"no Req":          func(r *api.Report) { r.Preps[2] = prep(n, 24, before[2], api.Req{}) },
		"others' Cert": func(r *api.Report) {
			r.Preps[0].Cert = votes(chainKind, before[0], 9, body(x()), from(0, quorum(n))...)
		},
		"a Req with an Op": func(r *api.Report) { r.Preps[1] = prep(n, 12, before[1], x()) },
	}
}

func TestChangedBehindTheSeal(t *testing.T) { // P18.1: the Sig is for all that the report tells
	for _, n := range rightNs {
		for what, change := range rightChanges(n) {
			takes(t, what+", sealed anew", with(n, change), n)
			refuses(t, what+" behind the seal", but(n, change))
			other := full(n)
			other.Sig = with(n, change).Sig
			refuses(t, "the Sig of a report with "+what, other)
		}
	}
}

func TestWhatCantBeWritten(t *testing.T) { // P18.1: such reports aren't Sealed, though their Sigs are what they would be
	long := bytes.Repeat([]byte{1}, 65537)
	for what, change := range map[string]func(r *api.Report){
		"a View below 0":   func(r *api.Report) { r.Preps[2] = prep(4, 24, api.Ballot{View: -1}, y()) },
		"a Turn below 0":   func(r *api.Report) { r.Preps[2] = prep(4, 24, api.Ballot{Turn: -1}, y()) },
		"a Turn too great": func(r *api.Report) { r.Preps[2] = prep(4, 24, api.Ballot{Turn: greatest + 1}, y()) },
		"a Stamp too great": func(r *api.Report) {
			r.Preps[2] = prep(4, 24, before[2], asked(api.Req{Client: 1, Stamp: greatest + 1, Op: []byte("x")}))
		},
		"a Digest too long": func(r *api.Report) { r.Digest = long },
		"a request's long Op": func(r *api.Report) {
			r.Preps[2] = prep(4, 24, before[2], asked(api.Req{Client: 1, Stamp: 1, Op: long}))
		},
		"too many Preps": func(r *api.Report) { r.Preps = slices.Repeat(r.Preps, 22) },
		"too many votes": func(r *api.Report) { r.Stable = slices.Repeat(r.Stable, 22) },
	} {
		refuses(t, what, with(4, change))
	}
	takes(t, "the greatest Turn", with(4, func(r *api.Report) { r.Preps[2] = prep(4, 24, api.Ballot{Turn: greatest}, y()) }), 4)
	takes(t, "the longest Op", with(4, func(r *api.Report) {
		r.Preps[2] = prep(4, 24, before[2], asked(api.Req{Client: 1, Stamp: 1, Op: []byte(strings.Repeat("o", 256))}))
	}), 4)
}

func TestSealedBelow(t *testing.T) { // P18.1, layer 6: what layer 6 seals is what these tests seal
	for _, r := range []api.Report{bare(), full(4), full(16)} {
		got := vote.Seal(api.Msg{Kind: reportKind, Reports: []api.Report{r}}, 2).Reports[0]
		if !bytes.Equal(got.Sig, r.Sig) {
			t.Errorf("layer 6 seals %v with %v, not %v", r, got.Sig, r.Sig)
		}
	}
}
