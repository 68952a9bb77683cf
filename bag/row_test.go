package bag

import (
	"math"
	"slices"
	"strings"
	"testing"

	"catenary/api"
)

func TestExample(t *testing.T) { // P13.1: the chapter's
	first, second := item{text: "a"}, item{text: "b"}
	b := bagOf(t, first, second)
	copies(t, b, 0, api.OK)
	takes(t, b, 1, second, api.OK)
	holds(t, b, first, first)
}

func TestErrors(t *testing.T) { // the section Errors: their numbers
	b := New()
	_, told := b.At(0)
	_, taken := b.Take(0)
	for call, e := range map[string]api.Errno{"At": told, "Take": taken, "Copy": b.Copy(0)} {
		if e != 132 {
			t.Errorf("%s of no packet: %d", call, e)
		}
	}
	b = bagOf(t, row(mostPackets)...)
	for call, e := range map[string]api.Errno{"Put": b.Put(api.Packet{}), "Copy": b.Copy(0)} {
		if e != 133 {
			t.Errorf("%s with a full bag: %d", call, e)
		}
	}
}

func TestEmptyBag(t *testing.T) { // P13.1: New, and a bag of which all was taken
	taken := bagOf(t, row(3)...)
	for i := 2; i >= 0; i-- {
		takes(t, taken, i, row(3)[i], api.OK)
	}
	for _, b := range []*Bag{New(), taken} {
		holds(t, b)
		for _, i := range append(outside(0), 1, 2, 3) {
			at(t, b, i, item{}, api.ErrBag)
			takes(t, b, i, item{}, api.ErrBag)
			copies(t, b, i, api.ErrBag)
			holds(t, b)
		}
		puts(t, b, item{1, 2, "x"}, api.OK)
		holds(t, b, item{1, 2, "x"})
	}
}

func TestLen(t *testing.T) { // P13.1: one more by Put and Copy, one less by Take, the same by At
	b := New()
	for i, do := range []struct {
		call func()
		then int
	}{
		{func() { b.Put(api.Packet{}) }, 1},
		{func() { b.Put(api.Packet{}) }, 2},
		{func() { b.At(1) }, 2},
		{func() { b.Copy(1) }, 3},
		{func() { b.Take(0) }, 2},
		{func() { b.Take(2) }, 2},
		{func() { b.Copy(2) }, 2},
		{func() { b.At(2) }, 2},
		{func() { b.Take(1) }, 1},
		{func() { b.Take(0) }, 0},
		{func() { b.Take(0) }, 0},
	} {
		do.call()
		if b.Len() != do.then || b.Len() != do.then {
			t.Errorf("behind call %d: %d packets; want %d", i, b.Len(), do.then)
		}
	}
}

func TestPut(t *testing.T) { // P13.1: behind all others, which stay as they are
	for _, start := range rows() {
		b, want := bagOf(t, start...), slices.Clone(start)
		for _, one := range []item{{7, 8, "new"}, {7, 8, "new"}, {}, {8, 7, "newer"}} {
			puts(t, b, one, api.OK)
			want = append(want, one)
			holds(t, b, want...)
		}
	}
}

func TestPutTakesAnyPacket(t *testing.T) { // P13.1: whoever it is from and for, whatever its bytes are
	var want []item
	for _, from := range []int{math.MinInt, -1, 0, 3, 101, 1 << 32, math.MaxInt} {
		for _, to := range []int{math.MinInt, -1, 0, 3, 101, 1 << 32, math.MaxInt} {
			for _, text := range []string{"", "\x00", "ab", "\xff\xfe\x80", strings.Repeat("z", 1000)} {
				want = append(want, item{from, to, text})
			}
		}
	}
	holds(t, bagOf(t, want...), want...)
}

func TestGreatPackets(t *testing.T) { // P13.1: no bound on a packet's bytes
	for _, size := range []int{api.MaxMsg, api.MaxMsg + 1, 1 << 24} {
		great := item{1, 2, strings.Repeat("g", size-1) + "e"}
		b := bagOf(t, item{3, 4, "x"}, great)
		copies(t, b, 1, api.OK)
		takes(t, b, 1, great, api.OK)
		holds(t, b, item{3, 4, "x"}, great)
	}
}

func TestPacketsWithoutBytes(t *testing.T) { // P13.1: nil and empty are one
	for _, none := range [][]byte{nil, {}, make([]byte, 0, 9)} {
		b := New()
		for i := range 3 {
			if e := b.Put(api.Packet{From: i, To: 9, Bytes: none}); e != api.OK {
				t.Errorf("Put of packet %d: %v", i, e)
			}
		}
		copies(t, b, 1, api.OK)
		holds(t, b, item{0, 9, ""}, item{1, 9, ""}, item{2, 9, ""}, item{1, 9, ""})
		takes(t, b, 3, item{1, 9, ""}, api.OK)
		takes(t, b, 0, item{0, 9, ""}, api.OK)
		holds(t, b, item{1, 9, ""}, item{2, 9, ""})
	}
}

func TestAt(t *testing.T) { // P13.1: it changes nothing, however often it is asked
	for _, start := range rows() {
		b := bagOf(t, start...)
		for range 3 {
			for i, want := range slices.Backward(start) {
				at(t, b, i, want, api.OK)
				at(t, b, i, want, api.OK)
			}
			holds(t, b, start...)
		}
	}
}

func TestNoSuchPacket(t *testing.T) { // P13.1: below 0, at the row's end and above it; nothing changes
	for _, start := range rows() {
		b := bagOf(t, start...)
		for _, i := range outside(len(start)) {
			at(t, b, i, item{}, api.ErrBag)
			takes(t, b, i, item{}, api.ErrBag)
			copies(t, b, i, api.ErrBag)
			holds(t, b, start...)
		}
		puts(t, b, item{5, 6, "next"}, api.OK)
		holds(t, b, append(slices.Clone(start), item{5, 6, "next"})...)
	}
}

func TestBagsAreApart(t *testing.T) { // P2: what is done to one bag doesn't touch another
	one, two, three := bagOf(t, row(3)...), bagOf(t, row(3)...), New()
	takes(t, one, 0, row(3)[0], api.OK)
	copies(t, one, 0, api.OK)
	puts(t, one, item{9, 9, "one"}, api.OK)
	holds(t, two, row(3)...)
	holds(t, three)
	takes(t, two, 2, row(3)[2], api.OK)
	puts(t, two, item{9, 9, "two"}, api.OK)
	puts(t, three, item{9, 9, "three"}, api.OK)
	holds(t, one, row(3)[1], row(3)[2], row(3)[1], item{9, 9, "one"})
	holds(t, two, row(3)[0], row(3)[1], item{9, 9, "two"})
	holds(t, three, item{9, 9, "three"})
	holds(t, New())
}

func TestFullBagsAreApart(t *testing.T) { // P2: MaxBag is each bag's own
	full := bagOf(t, row(mostPackets)...)
	other := bagOf(t, row(mostPackets-1)...)
	puts(t, full, item{}, api.ErrBagMany)
	puts(t, other, item{}, api.OK)
	takes(t, full, 0, row(1)[0], api.OK)
	puts(t, other, item{}, api.ErrBagMany)
	puts(t, New(), item{}, api.OK)
}
