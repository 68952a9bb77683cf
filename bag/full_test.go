package bag

import (
	"slices"
	"testing"

	"catenary/api"
)

func TestPutUpToTheMost(t *testing.T) { // P13.1: 4096 packets, and no more
	b, start := New(), row(mostPackets)
	for _, one := range start {
		puts(t, b, one, api.OK)
	}
	holds(t, b, start...)
	for _, one := range []item{{}, {1, 2, "more"}, start[0]} {
		puts(t, b, one, api.ErrBagMany)
		holds(t, b, start...)
	}
}

func TestCopyUpToTheMost(t *testing.T) { // P13.1: of any packet, and past it none
	for _, which := range []int{0, 1, 2} {
		start := row(3)
		b := bagOf(t, start...)
		want := append(slices.Clone(start), slices.Repeat(start[which:which+1], mostPackets-3)...)
		for range mostPackets - 3 {
			copies(t, b, which, api.OK)
		}
		holds(t, b, want...)
		for _, i := range []int{0, 1, which, mostPackets / 2, mostPackets - 1} {
			copies(t, b, i, api.ErrBagMany)
		}
		holds(t, b, want...)
	}
}

func TestNoSuchPacketOfAFullBag(t *testing.T) { // P13.1: ErrBag, for Copy ahead of ErrBagMany
	start := row(mostPackets)
	b := bagOf(t, start...)
	for _, i := range outside(mostPackets) {
		copies(t, b, i, api.ErrBag)
		at(t, b, i, item{}, api.ErrBag)
		takes(t, b, i, item{}, api.ErrBag)
	}
	holds(t, b, start...)
}

func TestTakeOfAFullBag(t *testing.T) { // P13.1: one more has room then, by Put or by Copy, and just one
	start, more := row(mostPackets), item{0, 0, "more"}
	for _, i := range []int{0, 1, mostPackets / 2, mostPackets - 2, mostPackets - 1} {
		left := append(slices.Clone(start[:i]), start[i+1:]...)
		b := bagOf(t, start...)
		takes(t, b, i, start[i], api.OK)
		holds(t, b, left...)
		puts(t, b, more, api.OK)
		puts(t, b, more, api.ErrBagMany)
		copies(t, b, 0, api.ErrBagMany)
		holds(t, b, append(slices.Clone(left), more)...)

		takes(t, b, mostPackets-1, more, api.OK)
		copies(t, b, mostPackets-2, api.OK)
		copies(t, b, mostPackets-2, api.ErrBagMany)
		puts(t, b, more, api.ErrBagMany)
		holds(t, b, append(slices.Clone(left), left[mostPackets-2])...)
	}
}

func TestAFullBagIsEmptied(t *testing.T) { // P13.1: from its end, from its front, and filled again
	start := row(mostPackets)
	b := New()
	for round := range 4 {
		for _, one := range start {
			puts(t, b, one, api.OK)
		}
		puts(t, b, item{}, api.ErrBagMany)
		for i := range mostPackets {
			if round%2 == 0 {
				takes(t, b, 0, start[i], api.OK)
			} else {
				takes(t, b, mostPackets-1-i, start[mostPackets-1-i], api.OK)
			}
		}
		holds(t, b)
	}
}
