package choose

import (
	"bytes"
	"fmt"
	"math"
	"testing"

	"catenary/api"
)

// lows are those about all that a Low is held against, and some that are far from it; some would be right in 32 bits.
func lows() []int {
	out := []int{math.MinInt, math.MinInt + 4, -1 << 32, -1<<32 + 8, -mostSlot, greatest - 3, greatest, greatest + 1, 1 << 31, 1 << 32, 1<<32 + 8, math.MaxInt - 3, math.MaxInt}
	out = append(out, from(-17, 60)...)
	return append(out, from(mostSlot-17, 40)...)
}

func TestLows(t *testing.T) { // P18.1: each with what shows a state there; the multiples of 4 from 4 to MaxSlot are right
	for _, n := range rightNs {
		for _, low := range lows() {
			right := false
			for multiple := 4; multiple <= mostSlot && !right; multiple += 4 {
				right = multiple == low
			}
			what := fmt.Sprintf("Low %d", low)
			is(t, what, sealed(withLow(bare(), n, low)), n, right)
			r := withLow(bare(), n, low)
			r.Preps = []api.Prep{prep(n, low+3, before[0], x())}
			is(t, what+" with a Prep", sealed(r), n, right)
		}
	}
}

func TestLowsWithNothing(t *testing.T) { // P18.1: at Low 0 nothing is to be shown, at any other both
	for _, n := range rightNs {
		for _, low := range lows() {
			nothing := bare()
			nothing.Low = low
			is(t, fmt.Sprintf("Low %d with neither", low), sealed(nothing), n, low == 0)
			digestAlone := withLow(bare(), n, low)
			digestAlone.Stable = nil
			refuses(t, fmt.Sprintf("Low %d with a Digest alone", low), sealed(digestAlone))
			stableAlone := withLow(bare(), n, low)
			stableAlone.Digest = nil
			refuses(t, fmt.Sprintf("Low %d with a Stable alone", low), sealed(stableAlone))
		}
	}
}

func TestLowZero(t *testing.T) { // P18.1: neither Digest nor Stable, right ones or not
	for _, digest := range [][]byte{nil, {0}, {9}, digest(), make([]byte, 32)} {
		for _, many := range []int{0, 1, 2, 3, 4} {
			r := bare()
			r.Digest, r.Stable = digest, votes(checkKind, api.Ballot{}, 0, digest, from(0, many)...)
			is(t, fmt.Sprintf("Low 0, %d bytes and %d votes", len(digest), many), sealed(r), 4, len(digest)+many == 0)
			r.Preps = []api.Prep{prep(4, 1, before[0], x())}
			is(t, fmt.Sprintf("Low 0, %d bytes and %d votes, and a Prep", len(digest), many), sealed(r), 4, len(digest)+many == 0)
		}
	}
}

func TestDigestSizes(t *testing.T) { // P18.1: 32 bytes, whatever they are
	for size := range 100 {
		for _, letter := range []byte{0, 9, 255} {
			r := full(4)
			r.Digest = bytes.Repeat([]byte{letter}, size)
			r.Stable = cert(4, checkKind, api.Ballot{}, r.Low, r.Digest)
			is(t, fmt.Sprintf("a Digest of %d bytes %d", size, letter), sealed(r), 4, size == 32)
		}
	}
}

func TestStable(t *testing.T) { // P18.1: votes of KCheck, in the ballot 0 0, for the Low and the Digest
	for _, n := range rightNs {
		for what, votes := range wrongCerts(n, checkKind, api.Ballot{}, 8, digest()) {
			refuses(t, "Stable with "+what, with(n, func(r *api.Report) { r.Stable = votes }))
			// Of n alone: what is too many or too few for it may be a quorum of another.
			is(t, "Stable alone with "+what, with(n, func(r *api.Report) { r.Stable, r.Preps = votes, nil }), n, false)
		}
		for what, change := range map[string]func(r *api.Report){
			"of a Low above": func(r *api.Report) { r.Stable = cert(n, checkKind, api.Ballot{}, 12, r.Digest) },
			"of a Low below": func(r *api.Report) { r.Stable = cert(n, checkKind, api.Ballot{}, 4, r.Digest) },
			"of Low 0":       func(r *api.Report) { r.Stable = cert(n, checkKind, api.Ballot{}, 0, r.Digest) },
			"of a Prep":      func(r *api.Report) { r.Stable = r.Preps[0].Cert },
			"behind another": func(r *api.Report) { r.Digest = bytes.Repeat([]byte{8}, 32) },
			"of 31 bytes":    func(r *api.Report) { r.Stable = cert(n, checkKind, api.Ballot{}, 8, r.Digest[:31]) },
			"of the ballot":  func(r *api.Report) { r.Stable = cert(n, checkKind, r.Ballot, 8, r.Digest) },
		} {
			refuses(t, "Stable "+what, with(n, change))
		}
	}
}

func TestStableOfAnyQuorum(t *testing.T) { // P18.1: whoever voted
	for _, n := range rightNs {
		q := quorum(n)
		for gap := range q + 1 {
			signers := append(from(0, gap), from(n-q+gap, q-gap)...)
			r := with(n, func(r *api.Report) {
				r.Stable = votes(checkKind, api.Ballot{}, 8, r.Digest, signers...)
				r.Preps[0].Cert = votes(chainKind, before[0], 9, body(x()), signers...)
			})
			takes(t, fmt.Sprintf("votes of %v", signers), r, n)
		}
	}
}
