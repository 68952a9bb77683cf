package stable

import (
	"crypto/sha256"
	"encoding/binary"
	"fmt"
	"math"
	"slices"
	"testing"

	"catenary/api"
)

const (
	// checkKind is KCheck, period Period, most MaxTally, mostSlot MaxSlot, as the document has them.
	checkKind = 10
	period    = 4
	most      = 64
	mostSlot  = 1000000
)

// rightNs are all that are right.
var rightNs = []int{4, 7, 10, 13, 16}

// quorum is how many are one of a right n.
func quorum(n int) int { return map[int]int{4: 3, 7: 5, 10: 7, 13: 9, 16: 11}[n] }

// wrongNs are all others of which one might slip through.
func wrongNs() []int {
	out := []int{math.MinInt, math.MinInt + 4, math.MinInt32, -1 << 32, 1 << 16, 1<<32 + 4, 1<<32 + 16, math.MaxInt32, math.MaxInt - 3, math.MaxInt}
	for n := -20; n < 60; n++ {
		if !slices.Contains(rightNs, n) {
			out = append(out, n)
		}
	}
	return out
}

// sign is a replica's signature for a vote, made without the layers below; of what is no replica it is what it would be if it were one.
func sign(kind int, b api.Ballot, slot int, body []byte, signer int) []byte {
	var numbers, all []byte
	for _, n := range []int{kind, b.View, b.Turn, slot} {
		numbers = binary.LittleEndian.AppendUint64(numbers, uint64(n))
	}
	for _, p := range [][]byte{[]byte("sign"), binary.AppendUvarint(nil, uint64(signer)), []byte("vote"), numbers, body} {
		all = append(binary.AppendUvarint(all, uint64(len(p))), p...)
	}
	sig := sha256.Sum256(all)
	return sig[:]
}

// check is a replica's vote for a digest at a slot.
func check(slot int, digest []byte, signer int) api.Vote {
	return api.Vote{Signer: signer, Sig: sign(checkKind, api.Ballot{}, slot, digest, signer)}
}

// checks are the votes of several replicas.
func checks(slot int, digest []byte, signers ...int) []api.Vote {
	var out []api.Vote
	for _, s := range signers {
		out = append(out, check(slot, digest, s))
	}
	return out
}

// x and y are digests that differ in their last byte alone, z differs from x in its first.
func x() []byte { return make([]byte, 32) }
func y() []byte { return append(make([]byte, 31), 1) }
func z() []byte { return append([]byte{1}, make([]byte, 31)...) }

// give hands in the votes of several replicas, and tells which of them made a quorum.
func give(t *Tally, slot int, digest []byte, signers ...int) []bool {
	var out []bool
	for _, s := range signers {
		out = append(out, t.Add(slot, digest, check(slot, digest, s)))
	}
	return out
}

// adds asks that just one of the votes, the one with this index, makes a quorum; none of them, if it is below 0.
func adds(t *testing.T, what string, l *Tally, slot int, digest []byte, makes int, signers ...int) {
	t.Helper()
	for i, got := range give(l, slot, digest, signers...) {
		if got != (i == makes) {
			t.Errorf("%s: the vote of %d at slot %d, with index %d: %v", what, signers[i], slot, i, got)
		}
	}
}

// spell writes a certificate out; lists that are nil and empty ones are written the same.
func spell(digest []byte, votes []api.Vote) string { return fmt.Sprintf("%x %x", digest, votes) }

// tells asks for the certificate at a slot, twice: asking changes nothing.
func tells(t *testing.T, what string, l *Tally, slot int, digest []byte, signers ...int) {
	t.Helper()
	want := spell(digest, checks(slot, digest, signers...))
	for range 2 {
		if got := spell(l.Cert(slot)); got != want {
			t.Errorf("%s: Cert(%d) is %s; want %s", what, slot, got, want)
		}
	}
}

// tellsNone asks that there is no certificate at a slot.
func tellsNone(t *testing.T, what string, l *Tally, slot int) {
	t.Helper()
	if digest, votes := l.Cert(slot); len(digest) != 0 || len(votes) != 0 {
		t.Errorf("%s: Cert(%d) is %s", what, slot, spell(digest, votes))
	}
}

// has asks for the slots that have a certificate, twice.
func has(t *testing.T, what string, l *Tally, slots ...int) {
	t.Helper()
	for range 2 {
		if got := l.Slots(); !slices.Equal(got, slots) {
			t.Errorf("%s: Slots are %v; want %v", what, got, slots)
		}
	}
}

// from are so many numbers, from first on.
func from(first, many int) []int {
	var out []int
	for i := range many {
		out = append(out, first+i)
	}
	return out
}

// countsStill asks that nothing was counted of a signer at a slot: its vote there makes a quorum of 4 with two others'.
func countsStill(t *testing.T, what string, l *Tally, slot, signer int) {
	t.Helper()
	others := slices.DeleteFunc(from(0, 3), func(s int) bool { return s == signer })[:2]
	adds(t, what, l, slot, z(), 2, append(others, signer)...)
	tells(t, what, l, slot, z(), from(0, 3)...)
}
