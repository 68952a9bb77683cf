package rules

import (
	"bytes"
	"reflect"
	"strconv"
	"testing"

	"catenary/api"
	"catenary/snap"
)

// stateBytes are those of states, right ones that are changed, cut off and longer, and none.
func stateBytes() [][]byte {
	out := [][]byte{nil, {}, {0}, []byte("no state"), bytes.Repeat([]byte{1}, 600)}
	for _, a := range states() {
		b, e := snap.Encode(a)
		if e != api.OK {
			continue
		}
		changed := bytes.Clone(b)
		changed[len(b)/2] ^= 1
		out = append(out, b, changed, b[:len(b)-1], append(bytes.Clone(b), 0))
	}
	return out
}

func TestStateBytes(t *testing.T) {
	for i, a := range states() {
		keepsRules(t, call{"Encode of state " + strconv.Itoa(i), snap.Encode, []any{a}})
	}
	for i, b := range stateBytes() {
		which := " of bytes " + strconv.Itoa(i)
		keepsRules(t, call{"Decode" + which, snap.Decode, []any{b}})
		keepsRules(t, call{"Digest" + which, snap.Digest, []any{b}})
	}
}

func TestPieces(t *testing.T) {
	for _, size := range []int{0, 1, 255, 256, 257, 512, 513, 1000} {
		b := bytes.Repeat([]byte("b"), size)
		keepsRules(t, call{"Cut of " + strconv.Itoa(size), snap.Cut, []any{b}})
		keepsRules(t, call{"Join of one of " + strconv.Itoa(size), snap.Join, []any{[][]byte{b}}})
		keepsRules(t, call{"Join of Cut of " + strconv.Itoa(size), snap.Join, []any{snap.Cut(b)}})
	}
	for i, pieces := range [][][]byte{nil, {}, {nil}, {{}, nil}, {[]byte("one"), nil}, {nil, []byte("one")}, {[]byte("one"), {}, []byte("two")}, stateBytes()} {
		keepsRules(t, call{"Join of list " + strconv.Itoa(i), snap.Join, []any{pieces}})
	}
}

func TestStatesHangOnArguments(t *testing.T) { // P2: whatever was read or written ahead, or refused
	want, e := snap.Encode(someState())
	if e != api.OK {
		t.Fatal(e)
	}
	digest := snap.Digest(want)
	for _, a := range states() {
		for _, other := range stateBytes() {
			snap.Encode(a)
			snap.Decode(other)
			snap.Digest(other)
			snap.Join(snap.Cut(other)...)
			b, e := snap.Encode(someState())
			again, f := snap.Decode(want)
			if e != api.OK || f != api.OK || !bytes.Equal(b, want) || !same(reflect.ValueOf(again), reflect.ValueOf(someState())) || !bytes.Equal(snap.Digest(b), digest) || len(snap.Cut(b)) != 1 {
				t.Fatalf("other answers behind calls with %v and %v", a, other)
			}
		}
	}
}
