package fetch

import (
	"fmt"
	"math"
	"testing"

	"catenary/api"
)

func TestLimits(t *testing.T) {
	if api.KState != stateKind || api.MaxPieces != most || api.MaxPiece != size || api.MaxInt != greatest {
		t.Error("the limits are others")
	}
}

// slots are of all sizes; some would be others in 32 bits.
func slots() []int {
	return []int{
		math.MinInt, math.MinInt + 8, -1 << 32, math.MinInt32, -8, -1, 0, 1, 2, 3, 4, 5, 8, 100, 999999, 1000000, 1000001, 1000004,
		math.MaxInt32 - 1, math.MaxInt32, math.MaxInt32 + 1, 1 << 32, 1<<32 + 8, math.MaxInt - 1, math.MaxInt,
	}
}

// mayCome: is a state of the slot wanted then, and can its pieces be written?
func mayCome(slot int) bool { return slot >= 1 && slot <= 2147483647 }

func TestNew(t *testing.T) { // P20.1: nothing is wanted, so nothing is taken
	for _, n := range append(wrongNs(), rightNs...) {
		f, what := New(n), fmt.Sprint("a new fetch of ", n)
		wants(t, what, f, 0)
		isntReady(t, what, f)
		for _, slot := range slots() {
			refuses(t, what, f, piece(slot, 0, 0, 1, "a"), piece(slot, 1, 0, 1, "a"))
		}
		isntReady(t, what, f)
		wants(t, what, f, 0)
	}
}

func TestWrongN(t *testing.T) { // P20.1, P20.2: no piece is taken, whoever tells it; the slot is wanted all the same
	for _, n := range wrongNs() {
		f, what := wanting(n, 8), fmt.Sprint("n is ", n)
		for who := -2; who < 60; who++ {
			refuses(t, what, f, piece(8, who, 0, 1, "a"))
		}
		isntReady(t, what, f)
		wants(t, what, f, 8)
	}
}

func TestWant(t *testing.T) { // P20.1: the slot that is wanted, and none of 0 and below
	for _, slot := range slots() {
		f, what := wanting(4, slot), fmt.Sprintf("Want(%d)", slot)
		wants(t, what, f, max(slot, 0))
		isntReady(t, what, f)
		for _, other := range slots() {
			if other != slot {
				refuses(t, what, f, piece(other, 0, 0, 1, "a"), piece(other, 3, 0, 1, "a"))
			}
		}
		isntReady(t, what, f)
		if !mayCome(slot) {
			refuses(t, what, f, piece(slot, 0, 0, 1, "a"), piece(slot, 3, 0, 1, "a"))
			isntReady(t, what, f)
			continue
		}
		takes(t, what, f, piece(slot, 0, 0, 1, "a"), piece(slot, 3, 0, 1, "a"))
		isReady(t, what, f, "a")
		wants(t, what, f, slot)
	}
}

func TestWantForgets(t *testing.T) { // P20.1: all that came, of the same slot and of another one; the same pieces are taken anew
	for _, first := range slots() {
		for _, second := range slots() {
			f, what := wanting(4, first), fmt.Sprintf("Want(%d) and Want(%d)", first, second)
			for _, who := range from(0, 3) {
				f.Add(piece(first, who, 0, 1, "a"))
			}
			f.Add(piece(first, 3, 1, 5, "a"))
			f.Want(second)
			wants(t, what, f, max(second, 0))
			isntReady(t, what, f)
			if !mayCome(second) {
				refuses(t, what, f, piece(second, 0, 0, 1, "a"), piece(second, 1, 0, 1, "a"))
				isntReady(t, what, f)
				continue
			}
			takes(t, what, f, piece(second, 2, 0, 1, "a"))
			isntReady(t, what, f)
			// With this Index, and with this Count alone, pieces were taken of them.
			takes(t, what, f, piece(second, 0, 0, 1, "a"))
			takes(t, what, f, tell(second, 3, "", "a", "")...)
			takes(t, what, f, tell(second, 1, "b", "a")...)
			isReady(t, what, f, "a")
		}
	}
}

func TestWantForgetsParts(t *testing.T) { // P20.1: what was half told must be told anew as a whole
	for _, second := range []int{8, 12} {
		f := wanting(7, 8)
		for _, who := range from(0, 7) {
			takes(t, "half", f, tell(8, who, "a", "b", "c")[:2]...)
		}
		f.Want(second)
		for _, who := range from(0, 7) {
			takes(t, "the other half", f, piece(second, who, 2, 3, "c"))
		}
		isntReady(t, "the other half", f)
		for _, who := range from(2, 3) {
			takes(t, "the first half anew", f, tell(second, who, "d", "e", "c")[:2]...)
		}
		isReady(t, "all anew", f, "dec")
	}
}

func TestWantNone(t *testing.T) { // P20.1: what came before it doesn't come back
	for _, none := range []int{0, -1, -8, math.MinInt} {
		f, what := wanting(4, 8), fmt.Sprintf("Want(%d)", none)
		takes(t, what, f, piece(8, 0, 0, 1, "a"), piece(8, 1, 0, 1, "a"))
		isReady(t, what, f, "a")
		f.Want(none)
		wants(t, what, f, 0)
		isntReady(t, what, f)
		refuses(t, what, f, piece(8, 2, 0, 1, "a"), piece(none, 2, 0, 1, "a"), piece(0, 2, 0, 1, "a"))
		f.Want(8)
		wants(t, what, f, 8)
		isntReady(t, what, f)
		takes(t, what, f, piece(8, 0, 0, 1, "a"))
		isntReady(t, what, f)
		takes(t, what, f, piece(8, 1, 0, 1, "a"))
		isReady(t, what, f, "a")
	}
}

func TestWantAgainAndAgain(t *testing.T) { // P20.1
	f := New(4)
	for i := range 200 {
		slot := 4 * (i % 7)
		f.Want(slot)
		what := fmt.Sprintf("call %d, Want(%d)", i, slot)
		wants(t, what, f, slot)
		isntReady(t, what, f)
		f.Add(piece(slot, 3, 0, 1, what))
		f.Add(piece(slot, 1, 0, 1, what))
		if slot > 0 {
			isReady(t, what, f, what)
		}
	}
}

func TestFetchesAreApart(t *testing.T) { // P2: what one takes, the other doesn't
	one, other := wanting(4, 8), wanting(4, 8)
	takes(t, "one", one, piece(8, 0, 0, 1, "a"))
	takes(t, "the other", other, piece(8, 1, 0, 1, "a"))
	isntReady(t, "one", one)
	isntReady(t, "the other", other)
	other.Want(12)
	wants(t, "one", one, 8)
	takes(t, "one, behind the other", one, piece(8, 1, 0, 1, "a"))
	isReady(t, "one", one, "a")
	isntReady(t, "the other", other)
}
