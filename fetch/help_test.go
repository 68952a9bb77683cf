package fetch

import (
	"bytes"
	"crypto/sha256"
	"encoding/binary"
	"math"
	"slices"
	"testing"

	"catenary/api"
)

const (
	// stateKind is KState, most MaxPieces, size MaxPiece, greatest MaxInt, as the document has them.
	stateKind = 12
	most      = 64
	size      = 256
	greatest  = 2147483647
	// replicas are as many as have keys.
	replicas = 16
)

// rightNs are all that are right.
var rightNs = []int{4, 7, 10, 13, 16}

// weak is how many of a right n have one that isn't faulty.
func weak(n int) int { return map[int]int{4: 2, 7: 3, 10: 4, 13: 5, 16: 6}[n] }

// wrongNs are all others of which one might slip through.
func wrongNs() []int {
	out := []int{math.MinInt, math.MinInt + 4, math.MinInt32, -1 << 32, 1 << 16, 1<<32 + 4, 1<<32 + 16, math.MaxInt32, math.MaxInt - 3, math.MaxInt}
	for n := -20; n < 60; n++ {
		if !slices.Contains(rightNs, n) {
			out = append(out, n)
		}
	}
	return out
}

// seal gives a message the signature for its kind, numbers and Data, made without the layers below; of what can't be written it is what it would be if it could.
func seal(m api.Msg, signer int) api.Msg {
	var body, all []byte
	for _, n := range []int{m.Kind, m.Slot, m.From, m.Index, m.Count, len(m.Data)} {
		body = binary.AppendUvarint(body, uint64(n))
	}
	body = append(append(body, m.Data...), 0)
	for _, p := range [][]byte{[]byte("sign"), binary.AppendUvarint(nil, uint64(signer)), []byte("message"), body} {
		all = append(binary.AppendUvarint(all, uint64(len(p))), p...)
	}
	sig := sha256.Sum256(all)
	m.Sig = sig[:]
	return m
}

// piece is one of a state as its replica tells it.
func piece(slot, from, index, count int, data string) api.Msg {
	return seal(api.Msg{Kind: stateKind, Slot: slot, From: from, Index: index, Count: count, Data: []byte(data)}, from)
}

// tell are all pieces of a state, as a replica tells it.
func tell(slot, from int, pieces ...string) []api.Msg {
	var out []api.Msg
	for i, data := range pieces {
		out = append(out, piece(slot, from, i, len(pieces), data))
	}
	return out
}

// wanting is a fetch of a cluster that wants a slot's state.
func wanting(n, slot int) *Fetch {
	f := New(n)
	f.Want(slot)
	return f
}

// takes asks that each of the messages is taken.
func takes(t *testing.T, what string, f *Fetch, messages ...api.Msg) {
	t.Helper()
	adds(t, what, f, true, messages)
}

// refuses asks that none of the messages is taken.
func refuses(t *testing.T, what string, f *Fetch, messages ...api.Msg) {
	t.Helper()
	adds(t, what, f, false, messages)
}

func adds(t *testing.T, what string, f *Fetch, want bool, messages []api.Msg) {
	t.Helper()
	for i, m := range messages {
		if got := f.Add(m); got != want {
			t.Errorf("%s: message %d (slot %d, from %d, %d of %d, %.20q) is taken: %v", what, i, m.Slot, m.From, m.Index, m.Count, m.Data, got)
		}
	}
}

// isReady asks for the state, twice: asking changes nothing.
func isReady(t *testing.T, what string, f *Fetch, want string) {
	t.Helper()
	for range 2 {
		if got, ok := f.Ready(); string(got) != want || !ok {
			t.Errorf("%s: Ready is %.40q, %v; want %.40q", what, got, ok, want)
		}
	}
}

// isntReady asks that there is no state, twice.
func isntReady(t *testing.T, what string, f *Fetch) {
	t.Helper()
	for range 2 {
		if got, ok := f.Ready(); len(got) != 0 || ok {
			t.Errorf("%s: Ready is %.40q, %v", what, got, ok)
		}
	}
}

// wants asks for the slot that is wanted, twice.
func wants(t *testing.T, what string, f *Fetch, slot int) {
	t.Helper()
	for range 2 {
		if got := f.Slot(); got != slot {
			t.Errorf("%s: Slot is %d; want %d", what, got, slot)
		}
	}
}

// long are so many bytes, unlike ones in each piece.
func long(many int) string {
	b := make([]byte, many)
	for i := range b {
		b[i] = byte(i%251 + i/size)
	}
	return string(b)
}

// cut are the pieces into which layer 10 is to cut a state.
func cut(state string) []string {
	var out []string
	for len(state) > size {
		out, state = append(out, state[:size]), state[size:]
	}
	return append(out, state)
}

// from are so many numbers, from first on.
func from(first, many int) []int {
	var out []int
	for i := range many {
		out = append(out, first+i)
	}
	return out
}

// sameMessage holds all fields against each other that a piece has, and asks that there is nothing in the others.
func sameMessage(a, b api.Msg) bool {
	others := a
	others.Kind, others.Slot, others.From, others.Index, others.Count, others.Data, others.Sig = 0, 0, 0, 0, 0, nil, nil
	return isNothing(others) && a.Kind == b.Kind && a.Slot == b.Slot && a.From == b.From && a.Index == b.Index && a.Count == b.Count && bytes.Equal(a.Data, b.Data) && bytes.Equal(a.Sig, b.Sig)
}

// isNothing: are all fields zero, and all lists empty?
func isNothing(m api.Msg) bool {
	lists := len(m.Data) + len(m.Sig) + len(m.Cert) + len(m.Votes) + len(m.Order) + len(m.Picks) + len(m.Reports)
	for _, r := range []api.Req{m.Req, m.Other} {
		lists += len(r.Op) + len(r.Sig)
	}
	numbers := []int{m.Kind, m.Ballot.View, m.Ballot.Turn, m.Slot, m.From, m.To, m.Index, m.Count, m.Req.Client, m.Req.Stamp, m.Other.Client, m.Other.Stamp}
	return lists == 0 && !slices.ContainsFunc(numbers, func(n int) bool { return n != 0 })
}
