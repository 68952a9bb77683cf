package lease

import (
	"math"
	"slices"
	"testing"

	"catenary/api"
)

func TestHolder(t *testing.T) { // P8.2: at the front, in the middle, at the end
	l := []api.Lease{lease("b", 3, 10), lease("d", 1, 20), lease("f", 4, 15)}
	for _, one := range l {
		name := string(one.Name)
		for now := -30; now < one.Until; now++ {
			holds(t, l, name, now, one.Owner, one.Until-now)
		}
		holds(t, l, name, one.Until-1, one.Owner, 1)
		for _, now := range []int{one.Until, one.Until + 1, one.Until + 100, math.MaxInt32, 1 << 32, math.MaxInt} {
			holds(t, l, name, now, 0, 0)
		}
	}
	for _, name := range []string{"", "a", "B", "b\x00", "bb", "c", "e", "g", "bd", "\xff", string(text(17))} {
		for _, now := range []int{math.MinInt, -1, 0, 1, 9, 10, 11, math.MaxInt} {
			holds(t, l, name, now, 0, 0)
		}
	}
}

func TestHolderOfNothing(t *testing.T) { // P8.2
	for _, l := range [][]api.Lease{nil, {}} {
		for _, name := range []string{"", "a"} {
			for _, now := range []int{math.MinInt, -1, 0, 1, math.MaxInt} {
				holds(t, l, name, now, 0, 0)
			}
		}
	}
	// Spare room isn't looked at.
	holds(t, row(3, 100)[:2], letters(4), 0, 0, 0)
}

func TestHolderEdges(t *testing.T) { // P8.2
	l := []api.Lease{lease("a", 1, math.MaxInt32), lease("b", 4, 1)}
	holds(t, l, "a", 0, 1, math.MaxInt32)
	holds(t, l, "a", -1, 1, math.MaxInt32+1)
	holds(t, l, "a", math.MaxInt32-1, 1, 1)
	holds(t, l, "a", math.MaxInt32, 0, 0)
	holds(t, l, "b", -1, 4, 2)
	holds(t, l, "b", 0, 4, 1)
	holds(t, l, "b", 1, 0, 0)
}

func TestHolderOfWrongLeases(t *testing.T) { // P8.2: it asks of the leases nothing but a Name and an Until above now
	holds(t, []api.Lease{lease("d", 1, 8), lease("b", 2, 9), lease("c", 3, 10)}, "b", 5, 2, 4)
	holds(t, []api.Lease{lease("d", 1, 8), lease("b", 2, 9), lease("c", 3, 10)}, "d", 5, 1, 3)
	holds(t, []api.Lease{lease("d", 1, 8), lease("b", 2, 9), lease("c", 3, 10)}, "c", 5, 3, 5)
	twice := []api.Lease{lease("a", 1, 8), lease("b", 3, 30), lease("a", 2, 9)}
	holds(t, twice, "a", 7, 1, 1)
	holds(t, twice, "a", 8, 2, 1)
	holds(t, twice, "a", 9, 0, 0)
	holds(t, []api.Lease{lease("", 2, 9)}, "", 5, 2, 4)
	holds(t, []api.Lease{lease("", 2, 9)}, "a", 5, 0, 0)
	long := string(text(1000))
	holds(t, []api.Lease{lease(long, 2, 9)}, long, 5, 2, 4)
	holds(t, []api.Lease{lease(long, 2, 9)}, long[:16], 5, 0, 0)
	holds(t, []api.Lease{lease("a", 77, 9)}, "a", 5, 77, 4)
	holds(t, []api.Lease{lease("a", -7, 9)}, "a", 5, -7, 4)
	holds(t, []api.Lease{lease("a", 0, 9)}, "a", 5, 0, 4)
	holds(t, []api.Lease{lease("a", 1, 0)}, "a", -1, 1, 1)
	holds(t, []api.Lease{lease("a", 1, 0)}, "a", 0, 0, 0)
	holds(t, []api.Lease{lease("a", 1, math.MaxInt)}, "a", 0, 1, math.MaxInt)
	holds(t, []api.Lease{lease("a", 1, math.MaxInt)}, "a", math.MaxInt, 0, 0)
	holds(t, []api.Lease{lease("a", 1, math.MaxInt)}, "a", math.MaxInt-1, 1, 1)
	holds(t, []api.Lease{lease("a", 1, -5)}, "a", math.MinInt, 1, math.MaxInt-4)
	holds(t, []api.Lease{lease("a", 1, math.MinInt)}, "a", math.MinInt, 0, 0)
	many := append(slices.Repeat([]api.Lease{lease("a", 1, 5)}, 1000), lease("b", 3, 9))
	holds(t, many, "b", 8, 3, 1)
	holds(t, many, "a", 4, 1, 1)
}

func TestHolderAlwaysEnds(t *testing.T) { // P1, P2: where the difference passes 64 bits, the owner is told all the same
	l := []api.Lease{lease("a", 3, math.MaxInt)}
	for _, now := range []int{-1, math.MinInt + 1, math.MinInt} {
		if owner, _ := Holder(l, []byte("a"), now); owner != 3 {
			t.Errorf("at %d: %d holds it", now, owner)
		}
	}
}
