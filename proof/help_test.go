package proof

import (
	"bytes"
	"crypto/sha256"
	"encoding/binary"
	"math"
	"slices"
	"strings"
	"testing"

	"catenary/api"
)

const (
	// errProof is ErrProof, as the document has it.
	errProof api.Errno = 161
	// greatest is MaxInt, longest MaxData, as the document has them.
	greatest = 2147483647
	longest  = 65536
	// replicas is how many replicas have a key.
	replicas = 16
)

// rightNs are all that are right.
var rightNs = []int{4, 7, 10, 13, 16}

// wrongNs are all others of which one might slip through.
func wrongNs() []int {
	out := []int{math.MinInt, math.MinInt + 4, math.MinInt32, -1 << 32, 1 << 16, 1<<32 + 4, 1<<32 + 16, 3*greatest + 1, math.MaxInt32, math.MaxInt - 3, math.MaxInt}
	for n := -20; n < 140; n++ {
		if !slices.Contains(rightNs, n) {
			out = append(out, n)
		}
	}
	return out
}

// numbers are the 8 bytes of each number.
func numbers(all ...int) []byte {
	var out []byte
	for _, n := range all {
		out = binary.LittleEndian.AppendUint64(out, uint64(n))
	}
	return out
}

// texts are each text's length and bytes.
func texts(all ...[]byte) []byte {
	var out []byte
	for _, p := range all {
		out = append(binary.AppendUvarint(out, uint64(len(p))), p...)
	}
	return out
}

// body is a request's Body, made without the layers below.
func body(r api.Req) []byte { return append(numbers(r.Client, r.Stamp), texts(r.Op, r.Sig)...) }

// sign is the Sig of a signer's vote, made without the layers below; of one without a key it is what it would be if it had one.
func sign(kind int, b api.Ballot, slot int, r api.Req, signer int) []byte {
	key := binary.AppendUvarint(nil, uint64(signer))
	sig := sha256.Sum256(texts([]byte("sign"), key, []byte("vote"), numbers(kind, b.View, b.Turn, slot), body(r)))
	return sig[:]
}

// signed is the evidence with right Sigs for all that it says.
func signed(e api.Msg) api.Msg {
	e.Sig = sign(e.Index, e.Ballot, e.Slot, e.Req, e.From)
	e.Data = sign(e.Index, e.Ballot, e.Slot, e.Other, e.From)
	return e
}

// evidence is a right one, of replica 3, whose numbers are all unlike.
func evidence() api.Msg {
	return signed(api.Msg{
		Kind: 13, Ballot: api.Ballot{View: 5, Turn: 6}, Slot: 7, From: 3, Index: 2,
		Req:   api.Req{Client: 1, Stamp: 8, Op: []byte("low"), Sig: []byte("asked low")},
		Other: api.Req{Client: 1, Stamp: 8, Op: []byte("top"), Sig: []byte("asked top")},
	})
}

// with is the right evidence with a change, signed anew behind it.
func with(change func(e *api.Msg)) api.Msg {
	e := evidence()
	change(&e)
	return signed(e)
}

// but is the right evidence with a change that its Sigs don't know of.
func but(change func(e *api.Msg)) api.Msg {
	e := evidence()
	change(&e)
	return e
}

// spell writes an evidence's bytes, whether it may be written or not, and without the layers below.
func spell(e api.Msg) []byte {
	var out []byte
	number := func(all ...int) {
		for _, n := range all {
			out = binary.AppendUvarint(out, uint64(n))
		}
	}
	number(e.Kind, e.Ballot.View, e.Ballot.Turn, e.Slot, e.From, e.Index)
	for _, r := range []api.Req{e.Req, e.Other} {
		number(r.Client, r.Stamp)
		out = append(out, texts(r.Op, r.Sig)...)
	}
	return append(out, texts(e.Data, e.Sig)...)
}

// rising are requests whose Bodies rise, though often not their fields: the lowest byte of a number, and a text's length, come first.
func rising() []api.Req {
	text := func(s string) []byte { return []byte(s) }
	return []api.Req{
		{}, {Sig: text("x")}, {Sig: text("y")}, {Sig: text("aa")},
		{Op: text("b")}, {Op: text("b"), Sig: text("a")}, {Op: text("b"), Sig: text("b")}, {Op: text("c")}, {Op: text("aa")},
		{Op: text(strings.Repeat("z", 127))}, {Op: text(strings.Repeat("a", 128))}, {Op: text(strings.Repeat("a", 127) + "b")},
		{Stamp: 1 << 30}, {Stamp: 1 << 16}, {Stamp: 256}, {Stamp: 1}, {Stamp: 1, Sig: text("x")}, {Stamp: 257}, {Stamp: 2}, {Stamp: greatest},
		{Client: 1 << 30}, {Client: 256, Stamp: 9}, {Client: 1}, {Client: 1, Op: text("a")}, {Client: 1, Stamp: 1}, {Client: 257}, {Client: 2}, {Client: greatest}, {Client: greatest, Stamp: 1},
	}
}

// short is the beginning of bytes, for what a test tells.
func short(b []byte) []byte { return b[:min(len(b), 80)] }

// checks asks whom bytes show with n.
func checks(t *testing.T, what string, b []byte, n, want int) {
	t.Helper()
	if who, e := Check(b, n); who != want || e != api.OK {
		t.Errorf("%s: Check of %v with n = %d: %d, %v; want %d", what, short(b), n, who, e, want)
	}
}

// refusesWith asks that bytes are no proof with n, and that nobody is named beside the error.
func refusesWith(t *testing.T, what string, b []byte, n int) {
	t.Helper()
	if who, e := Check(b, n); who != 0 || e != errProof {
		t.Errorf("%s: Check of %v with n = %d: %d, %v; want ErrProof alone", what, short(b), n, who, e)
	}
}

// refusesBytes asks that bytes are no proof, whatever n is.
func refusesBytes(t *testing.T, what string, b []byte) {
	t.Helper()
	for _, n := range rightNs {
		refusesWith(t, what, b, n)
	}
	for _, n := range []int{math.MinInt, 0, 1, 5, 19, math.MaxInt} {
		refusesWith(t, what, b, n)
	}
}

// makes asks that the evidence is made the bytes that it is spelt with, which show it in every cluster that has such a replica, and in no other.
func makes(t *testing.T, what string, e api.Msg) {
	t.Helper()
	want := spell(e)
	if b, wrong := Make(e); wrong != api.OK || !bytes.Equal(b, want) {
		t.Errorf("%s: Make: %v, %v; want %v", what, short(b), wrong, short(want))
	}
	for _, n := range rightNs {
		if e.From < n {
			checks(t, what, want, n, e.From)
		} else {
			refusesWith(t, what, want, n)
		}
	}
}

// unmade asks that nothing is made of the message.
func unmade(t *testing.T, what string, e api.Msg) {
	t.Helper()
	if b, wrong := Make(e); len(b) != 0 || wrong != errProof {
		t.Errorf("%s: Make: %v, %v; want ErrProof alone", what, short(b), wrong)
	}
}

// refuses asks that nothing is made of the evidence, and that its bytes are no proof.
func refuses(t *testing.T, what string, e api.Msg) {
	t.Helper()
	unmade(t, what, e)
	refusesBytes(t, what, spell(e))
}
