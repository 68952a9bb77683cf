package fetch

import (
	"fmt"
	"math"
	"testing"

	"catenary/api"
	"catenary/snap"
	"catenary/vote"
)

// areThese asks for each field of each message.
func areThese(t *testing.T, what string, got, want []api.Msg) {
	t.Helper()
	if len(got) != len(want) {
		t.Errorf("%s: %d messages; want %d", what, len(got), len(want))
		return
	}
	for i, m := range got {
		if !sameMessage(m, want[i]) {
			t.Errorf("%s: message %d is %.200v; want %.200v", what, i, fmt.Sprint(m), fmt.Sprint(want[i]))
		}
	}
}

func TestPieces(t *testing.T) { // P20.4: each message whole, of no bytes up to four pieces and one more
	for many := range 4*size + 2 {
		state := long(many)
		areThese(t, fmt.Sprintf("%d bytes", many), Pieces(8, 3, []byte(state)), tell(8, 3, cut(state)...))
	}
}

func TestHowManyPieces(t *testing.T) { // P20.4: the last one of what is left, at least one, at most 64
	for many, want := range map[int]int{
		0: 1, 1: 1, 255: 1, 256: 1, 257: 2, 511: 2, 512: 2, 513: 3, 1000: 4, 63 * 256: 63, 63*256 + 1: 64, 64*256 - 1: 64, 64 * 256: 64,
		64*256 + 1: 0, 65 * 256: 0, 65*256 + 1: 0, 128 * 256: 0, 65536: 0, 65536 + 1: 0, 1 << 20: 0, 1<<20 + 256: 0,
	} {
		state := long(many)
		got := Pieces(4, 1, []byte(state))
		if len(got) != want {
			t.Errorf("%d bytes: %d pieces; want %d", many, len(got), want)
		}
		if want > 0 {
			areThese(t, fmt.Sprintf("%d bytes", many), got, tell(4, 1, cut(state)...))
		}
	}
	areThese(t, "no bytes", Pieces(4, 1, nil), []api.Msg{piece(4, 1, 0, 1, "")})
	areThese(t, "an empty list", Pieces(4, 1, []byte{}), []api.Msg{piece(4, 1, 0, 1, "")})
	// Spare room isn't part of what is handed in.
	areThese(t, "spare room", Pieces(4, 1, []byte(long(1000))[:256]), []api.Msg{piece(4, 1, 0, 1, long(256))})
}

func TestPiecesOfAll(t *testing.T) { // P20.4: of each slot, from each replica; what can't be written, or has no key, isn't signed
	state := long(600)
	for _, slot := range slots() {
		for _, who := range append(from(-3, 135), odd()...) {
			want := tell(slot, who, cut(state)...)
			if slot < 0 || slot > 2147483647 || who < 0 || who >= replicas {
				for i := range want {
					want[i].Sig = nil
				}
			}
			areThese(t, fmt.Sprintf("slot %d from %d", slot, who), Pieces(slot, who, []byte(state)), want)
		}
	}
}

func TestTooManyPiecesOfAll(t *testing.T) { // P20.4: none, of whatever slot and replica
	for _, slot := range []int{math.MinInt, -1, 0, 8, math.MaxInt} {
		for _, who := range []int{math.MinInt, -1, 0, 15, 16, math.MaxInt} {
			if got := Pieces(slot, who, make([]byte, most*size+1)); len(got) != 0 {
				t.Errorf("slot %d from %d: %d pieces", slot, who, len(got))
			}
		}
	}
}

func TestPiecesAreTaken(t *testing.T) { // P20.2, P20.4: a fetch takes what Pieces tells
	for _, many := range []int{0, 1, 255, 256, 257, 1000, most*size - 1, most * size} {
		for _, n := range rightNs {
			for _, slot := range []int{1, 8, 1000000, greatest} {
				f, state := wanting(n, slot), long(many)
				for who := range n {
					takes(t, fmt.Sprintf("%d bytes from %d of %d at slot %d", many, who, n, slot), f, Pieces(slot, who, []byte(state))...)
				}
				isReady(t, fmt.Sprintf("%d bytes of %d", many, n), f, state)
			}
		}
	}
}

func TestPiecesOfOtherSlots(t *testing.T) { // P20.2, P20.4: what isn't signed, or isn't of the slot, isn't taken
	for _, slot := range slots() {
		f := wanting(16, slot)
		for _, other := range slots() {
			for _, who := range []int{-1, 0, 15, 16} {
				may := slot == other && slot >= 1 && slot <= 2147483647 && who >= 0 && who < 16
				adds(t, fmt.Sprintf("slot %d from %d, slot %d is wanted", other, who, slot), f, may, Pieces(other, who, []byte("a")))
			}
		}
	}
}

func TestPiecesAreSealed(t *testing.T) { // P20.4: as layer 6 has it, of pieces as layer 10 has them
	state := []byte(long(5000))
	pieces := snap.Cut(state)
	for i, m := range Pieces(12, 2, state) {
		if !vote.Sealed(m, 2) || string(m.Data) != string(pieces[i]) {
			t.Errorf("piece %d isn't as the layers below have it", i)
		}
	}
}
