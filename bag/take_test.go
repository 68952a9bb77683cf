package bag

import (
	"slices"
	"testing"

	"catenary/api"
)

func TestTake(t *testing.T) { // P13.1: at the front, in the middle and at the end; those behind it move up, the others stay
	for _, start := range rows() {
		for i, taken := range start {
			b := bagOf(t, start...)
			takes(t, b, i, taken, api.OK)
			left := append(slices.Clone(start[:i]), start[i+1:]...)
			holds(t, b, left...)
			puts(t, b, item{9, 9, "behind"}, api.OK)
			holds(t, b, append(left, item{9, 9, "behind"})...)
		}
	}
}

func TestTakeOfFive(t *testing.T) { // P13.1: written out
	a, b, c, d, e := item{1, 0, "a"}, item{2, 0, "b"}, item{3, 0, "c"}, item{4, 0, "d"}, item{5, 0, "e"}
	bag := bagOf(t, a, b, c, d, e)
	takes(t, bag, 2, c, api.OK)
	holds(t, bag, a, b, d, e)
	takes(t, bag, 0, a, api.OK)
	holds(t, bag, b, d, e)
	takes(t, bag, 2, e, api.OK)
	holds(t, bag, b, d)
	takes(t, bag, 2, item{}, api.ErrBag)
	takes(t, bag, 1, d, api.OK)
	takes(t, bag, 0, b, api.OK)
	takes(t, bag, 0, item{}, api.ErrBag)
	holds(t, bag)
}

func TestTakeOfAll(t *testing.T) { // P13.1: in every order of four
	start := row(4)
	for order := range 4 * 3 * 2 {
		b, left := bagOf(t, start...), slices.Clone(start)
		for many := 4; many > 0; many-- {
			i := order % many
			order /= many
			takes(t, b, i, left[i], api.OK)
			left = slices.Delete(left, i, i+1)
			holds(t, b, left...)
		}
	}
}

func TestTakeFromTheFront(t *testing.T) { // P13.1: packets go through in the order in which they were put, many more than there may be at once
	b, through := New(), row(3*mostPackets)
	const within = 100
	for i, one := range through {
		puts(t, b, one, api.OK)
		if i >= within {
			takes(t, b, 0, through[i-within], api.OK)
		}
	}
	holds(t, b, through[len(through)-within:]...)
}

func TestCopy(t *testing.T) { // P13.1: behind all others, which stay as they are
	for _, start := range rows() {
		for i, one := range start {
			b := bagOf(t, start...)
			copies(t, b, i, api.OK)
			holds(t, b, append(slices.Clone(start), one)...)
			copies(t, b, i, api.OK)
			holds(t, b, append(slices.Clone(start), one, one)...)
			puts(t, b, item{9, 9, "behind"}, api.OK)
			holds(t, b, append(slices.Clone(start), one, one, item{9, 9, "behind"})...)
		}
	}
}

func TestCopyGoesItsOwnWay(t *testing.T) { // P13.1: what it was made of may be taken, and it may be, the other stays
	for _, start := range rows()[1:] {
		for i, one := range start {
			end := len(start)
			b := bagOf(t, start...)
			copies(t, b, i, api.OK)
			takes(t, b, i, one, api.OK)
			left := append(slices.Clone(start[:i]), start[i+1:]...)
			holds(t, b, append(slices.Clone(left), one)...)
			takes(t, b, end-1, one, api.OK)
			holds(t, b, left...)

			b = bagOf(t, start...)
			copies(t, b, i, api.OK)
			takes(t, b, end, one, api.OK)
			holds(t, b, start...)
		}
	}
}

func TestCopyOfACopy(t *testing.T) { // P13.1
	a, c := item{1, 2, "a"}, item{3, 4, "c"}
	b := bagOf(t, a, c)
	copies(t, b, 0, api.OK)
	copies(t, b, 2, api.OK)
	copies(t, b, 1, api.OK)
	holds(t, b, a, c, a, a, c)
	takes(t, b, 0, a, api.OK)
	takes(t, b, 1, a, api.OK)
	holds(t, b, c, a, c)
}
