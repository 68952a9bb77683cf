package snap

import (
	"bytes"
	"crypto/sha256"
	"math/rand"
	"slices"
	"testing"

	"catenary/api"
	"catenary/key"
)

func TestDigest(t *testing.T) { // P10.2
	for _, b := range [][]byte{nil, {}, {0}, {0, 0, 0, 0}, []byte("state"), text(127), text(128), text(300), spell(some()).b, spell(most()).b, text(100000)} {
		got := Digest(b)
		if want := key.Digest("state", b); !bytes.Equal(got, want) {
			t.Errorf("Digest(%.50v) = %v; want %v", b, got, want)
		}
		// The same without the layers below.
		var pack spelling
		pack.text([]byte("digest"))
		pack.text([]byte("state"))
		pack.text(b)
		if want := sha256.Sum256(pack.b); !bytes.Equal(got, want[:]) {
			t.Errorf("Digest(%.50v) = %v; the hash is %v", b, got, want)
		}
	}
}

func TestUnlikeDigests(t *testing.T) { // P10.2
	were := map[string]bool{}
	for size := range 600 {
		were[string(Digest(make([]byte, size)))] = true
	}
	if len(were) != 600 {
		t.Errorf("600 texts have %d digests", len(were))
	}
}

// sizesOf are how many bytes each piece has.
func sizesOf(pieces [][]byte) []int {
	var out []int
	for _, p := range pieces {
		out = append(out, len(p))
	}
	return out
}

func TestCutSizes(t *testing.T) { // P10.2
	for size, want := range map[int][]int{
		0: {0}, 1: {1}, 2: {2}, 255: {255}, 256: {256}, 257: {256, 1}, 511: {256, 255}, 512: {256, 256}, 513: {256, 256, 1}, 768: {256, 256, 256}, 1000: {256, 256, 256, 232},
	} {
		b := text(size)
		pieces := Cut(b)
		if !slices.Equal(sizesOf(pieces), want) {
			t.Errorf("Cut of %d bytes gives pieces of %v; want %v", size, sizesOf(pieces), want)
		}
		if !bytes.Equal(bytes.Join(pieces, nil), b) {
			t.Errorf("Cut of %d bytes gives others", size)
		}
	}
	if pieces := Cut(nil); len(pieces) != 1 || len(pieces[0]) != 0 {
		t.Errorf("Cut(nil) = %v", pieces)
	}
	// Spare room isn't part of what is handed in.
	if pieces := Cut(text(1000)[:256]); !slices.Equal(sizesOf(pieces), []int{256}) {
		t.Errorf("Cut of 256 bytes with spare room: %v", pieces)
	}
}

func TestCutBytes(t *testing.T) { // P10.2: of bytes that are no state, too
	draw := rand.New(rand.NewSource(13))
	for size := range 1100 {
		b := make([]byte, size)
		draw.Read(b)
		pieces := Cut(b)
		if len(pieces) != max(1, (size+255)/256) {
			t.Errorf("Cut of %d bytes gives %d pieces", size, len(pieces))
		}
		for i, p := range pieces {
			if !bytes.Equal(p, b[256*i:min(size, 256*i+256)]) {
				t.Errorf("Cut of %d bytes: piece %d is %v", size, i, p)
			}
		}
		if !bytes.Equal(Join(pieces...), b) {
			t.Errorf("Join of Cut of %d bytes gives others", size)
		}
	}
	if pieces := Cut(text(1 << 20)); len(pieces) != 4096 || !bytes.Equal(Join(pieces...), text(1<<20)) {
		t.Errorf("Cut of 2^20 bytes gives %d pieces", len(pieces))
	}
}

func TestJoin(t *testing.T) { // P10.2
	for _, c := range []struct {
		pieces [][]byte
		want   string
	}{
		{nil, ""},
		{[][]byte{}, ""},
		{[][]byte{nil}, ""},
		{[][]byte{{}, nil, {}}, ""},
		{[][]byte{[]byte("a")}, "a"},
		{[][]byte{[]byte("a"), []byte("bc")}, "abc"},
		{[][]byte{[]byte("bc"), []byte("a")}, "bca"},
		{[][]byte{nil, []byte("a"), {}, []byte("a"), nil}, "aa"},
		{[][]byte{text(1000), {0}, text(256)}, string(text(1000)) + "\x00" + string(text(256))},
		{slices.Repeat([][]byte{[]byte("ab")}, 300), string(bytes.Repeat([]byte("ab"), 300))},
	} {
		if got := Join(c.pieces...); string(got) != c.want {
			t.Errorf("Join(%v) = %v; want %v", c.pieces, got, []byte(c.want))
		}
	}
	if got := Join(); len(got) != 0 {
		t.Errorf("Join of no piece: %v", got)
	}
}

func TestStatesInPieces(t *testing.T) { // P10.1, P10.2: the greatest state fits into as many pieces as there may be
	for _, a := range rightStates() {
		b, _ := Encode(a)
		pieces := Cut(b)
		if len(pieces) > api.MaxPieces {
			t.Errorf("%v has %d pieces", a, len(pieces))
		}
		if got, e := Decode(Join(pieces...)); e != api.OK || !sameState(got, a) {
			t.Errorf("%v comes back as %v, %v", a, got, e)
		}
	}
}

func TestEachPiece(t *testing.T) { // the iterator may be left, and gone through again
	for stop := range 4 {
		each, seen := eachPiece(text(600)), 0
		for range each {
			if seen == stop {
				break
			}
			seen++
		}
		if want := min(stop, 3); seen != want {
			t.Errorf("left at piece %d of 3 behind %d", stop, seen)
		}
		if again := slices.Collect(each); !bytes.Equal(bytes.Join(again, nil), text(600)) {
			t.Errorf("the second time through: %v", again)
		}
	}
}
