package choose

import (
	"bytes"
	"crypto/sha256"
	"encoding/binary"
	"fmt"
	"math"
	"slices"
	"testing"

	"catenary/api"
)

const (
	// chainKind is KChain, reportKind KReport, checkKind KCheck, open Window, mostSlot MaxSlot, greatest MaxInt, as the document has them.
	chainKind  = 2
	reportKind = 8
	checkKind  = 10
	open       = 16
	mostSlot   = 1000000
	greatest   = 2147483647
	// replicas is how many replicas have a key, firstClient which key client 0 would have.
	replicas    = 16
	firstClient = 100
)

// rightNs are all that are right.
var rightNs = []int{4, 7, 10, 13, 16}

// quorum is how many are one of a right n.
func quorum(n int) int { return map[int]int{4: 3, 7: 5, 10: 7, 13: 9, 16: 11}[n] }

// wrongNs are all others of which one might slip through.
func wrongNs() []int {
	out := []int{math.MinInt, math.MinInt + 4, math.MinInt32, -1 << 32, 1 << 16, 1<<32 + 4, 1<<32 + 16, 3*greatest + 1, math.MaxInt32, math.MaxInt - 3, math.MaxInt}
	for n := -20; n < 60; n++ {
		if !slices.Contains(rightNs, n) {
			out = append(out, n)
		}
	}
	return out
}

// numbers are the 8 bytes of each number.
func numbers(all ...int) []byte {
	var out []byte
	for _, n := range all {
		out = binary.LittleEndian.AppendUint64(out, uint64(n))
	}
	return out
}

// texts are each text's length and bytes.
func texts(all ...[]byte) []byte {
	var out []byte
	for _, p := range all {
		out = append(binary.AppendUvarint(out, uint64(len(p))), p...)
	}
	return out
}

// sign is a key's signature, made without the layers below; of what is no key it is what it would be if it were one.
func sign(key int, domain string, parts ...[]byte) []byte {
	all := append([][]byte{[]byte("sign"), binary.AppendUvarint(nil, uint64(key)), []byte(domain)}, parts...)
	sig := sha256.Sum256(texts(all...))
	return sig[:]
}

// body is a request's Body, made without the layers below.
func body(r api.Req) []byte { return append(numbers(r.Client, r.Stamp), texts(r.Op, r.Sig)...) }

// asked is the request with its client's signature.
func asked(r api.Req) api.Req {
	r.Sig = sign(firstClient+r.Client, "request", numbers(r.Client, r.Stamp), r.Op)
	return r
}

// votes are those of some signers.
func votes(kind int, b api.Ballot, slot int, body []byte, signers ...int) []api.Vote {
	var out []api.Vote
	for _, s := range signers {
		out = append(out, api.Vote{Signer: s, Sig: sign(s, "vote", numbers(kind, b.View, b.Turn, slot), body)})
	}
	return out
}

// cert is of the last quorum of n.
func cert(n, kind int, b api.Ballot, slot int, body []byte) []api.Vote {
	return votes(kind, b, slot, body, from(n-quorum(n), quorum(n))...)
}

// from are so many numbers, from first on.
func from(first, many int) []int {
	var out []int
	for i := range many {
		out = append(out, first+i)
	}
	return out
}

// prep is a right one of n, if the request may be.
func prep(n, slot int, b api.Ballot, r api.Req) api.Prep {
	return api.Prep{Slot: slot, Ballot: b, Req: r, Cert: cert(n, chainKind, b, slot, body(r))}
}

// spell writes the bytes of a message with one report, whether it may be written or not, and without the layers below.
func spell(r api.Report) []byte {
	var out []byte
	number := func(all ...int) {
		for _, n := range all {
			out = binary.AppendUvarint(out, uint64(n))
		}
	}
	text := func(p []byte) { out = append(out, texts(p)...) }
	list := func(votes []api.Vote) {
		number(len(votes))
		for _, v := range votes {
			number(v.Signer)
			text(v.Sig)
		}
	}
	number(reportKind, 1, r.Ballot.View, r.Ballot.Turn, r.Replica, r.Low)
	text(r.Digest)
	list(r.Stable)
	number(len(r.Preps))
	for _, p := range r.Preps {
		number(p.Slot, p.Ballot.View, p.Ballot.Turn, p.Req.Client, p.Req.Stamp)
		text(p.Req.Op)
		text(p.Req.Sig)
		list(p.Cert)
	}
	text(r.Sig)
	return out
}

// sealed is the report with its replica's signature.
func sealed(r api.Report) api.Report { return sealedBy(r, r.Replica) }

func sealedBy(r api.Report, replica int) api.Report {
	r.Sig = nil
	r.Sig = sign(replica, "report", spell(r))
	return r
}

// now is the ballot of reports, before ones that are below it.
var (
	now    = api.Ballot{View: 5, Turn: 2}
	before = []api.Ballot{{View: 5, Turn: 1}, {View: 4, Turn: 7}, {}}
)

// x, y and z are requests that were asked.
func x() api.Req { return asked(api.Req{Client: 1, Stamp: 1, Op: []byte("x")}) }
func y() api.Req { return asked(api.Req{Client: 2, Stamp: 7, Op: []byte("yy")}) }
func z() api.Req { return asked(api.Req{Client: 4, Stamp: greatest, Op: []byte("zzz")}) }

// digest is of 32 bytes.
func digest() []byte { return bytes.Repeat([]byte{9}, 32) }

// withLow is the report with a Low, and with what shows a state there.
func withLow(r api.Report, n, low int) api.Report {
	r.Low, r.Digest = low, digest()
	r.Stable = cert(n, checkKind, api.Ballot{}, low, r.Digest)
	return r
}

// bare is a right report of replica 2: nothing is stable, nothing prepared.
func bare() api.Report { return sealed(api.Report{Ballot: now, Replica: 2}) }

// full is a right report of replica 2 of n: a state is stable, and three requests are prepared above it.
func full(n int) api.Report {
	r := withLow(bare(), n, 8)
	r.Preps = []api.Prep{prep(n, 9, before[0], x()), prep(n, 12, before[1], api.Req{}), prep(n, 24, before[2], y())}
	return sealed(r)
}

// with is the full report with a change, sealed anew behind it.
func with(n int, change func(r *api.Report)) api.Report {
	r := full(n)
	change(&r)
	return sealed(r)
}

// but is the full report with a change that its Sig doesn't know of.
func but(n int, change func(r *api.Report)) api.Report {
	r := full(n)
	change(&r)
	return r
}

// is asks whether a report is right.
func is(t *testing.T, what string, r api.Report, n int, want bool) {
	t.Helper()
	if got := Right(r, n); got != want {
		t.Errorf("%s: Right with n = %d: %v", what, n, got)
	}
}

// takes asks that a report is right.
func takes(t *testing.T, what string, r api.Report, n int) {
	t.Helper()
	is(t, what, r, n, true)
}

// refuses asks that a report isn't right, whatever n is.
func refuses(t *testing.T, what string, r api.Report) {
	t.Helper()
	for _, n := range rightNs {
		is(t, what, r, n, false)
	}
	for _, n := range []int{math.MinInt, -4, 0, 1, 5, 19, math.MaxInt} {
		is(t, what, r, n, false)
	}
}

// wrongCerts are no certificate of n for a body, each by what is wrong with it.
func wrongCerts(n, kind int, b api.Ballot, slot int, body []byte) map[string][]api.Vote {
	q := quorum(n)
	falling := cert(n, kind, b, slot, body)
	slices.Reverse(falling)
	right := func() []api.Vote { return cert(n, kind, b, slot, body) }
	of := func(signers ...int) []api.Vote { return votes(kind, b, slot, body, signers...) }
	out := map[string][]api.Vote{
		"no votes":                nil,
		"none":                    {},
		"one vote short":          right()[1:],
		"the last vote short":     right()[:q-1],
		"one vote more":           of(from(0, q+1)...),
		"all votes":               of(from(0, n)...),
		"the votes of the weak":   of(from(0, n/3+1)...),
		"a signer that is n":      of(append(from(0, q-1), n)...),
		"a signer below 0":        of(append([]int{-1}, from(0, q-1)...)...),
		"one signer twice":        of(append(from(1, q-1), q-1)...),
		"votes that fall":         falling,
		"the first two swapped":   of(append([]int{1, 0}, from(2, q-2)...)...),
		"another body":            cert(n, kind, b, slot, append(bytes.Clone(body), 0)),
		"no body":                 cert(n, kind, b, slot, nil),
		"the ballot of reports":   cert(n, kind, now, slot, body),
		"one vote of another":     append(of(from(0, q-1)...), votes(kind, b, slot, nil, q-1)...),
		"the first vote anothers": append(votes(kind, b, slot, nil, 0), of(from(1, q-1)...)...),
	}
	for _, by := range []int{-8, -1, 1, 4, 1 << 32} {
		out[fmt.Sprintf("a slot %d more", by)] = cert(n, kind, b, slot+by, body)
		out[fmt.Sprintf("a view %d more", by)] = cert(n, kind, api.Ballot{View: b.View + by, Turn: b.Turn}, slot, body)
		out[fmt.Sprintf("a turn %d more", by)] = cert(n, kind, api.Ballot{View: b.View, Turn: b.Turn + by}, slot, body)
	}
	for other := range 27 {
		if other != kind {
			out[fmt.Sprintf("kind %d", other)] = cert(n, other, b, slot, body)
		}
	}
	for i := range q {
		v := right()
		v[i].Sig[i] ^= 1
		out[fmt.Sprintf("vote %d with a bit turned", i)] = v
		v = right()
		v[i].Sig = nil
		out[fmt.Sprintf("vote %d without a Sig", i)] = v
		v = right()
		v[i].Sig = v[(i+1)%q].Sig
		out[fmt.Sprintf("vote %d with another's Sig", i)] = v
	}
	return out
}
