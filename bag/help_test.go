package bag

import (
	"fmt"
	"math"
	"testing"

	"catenary/api"
)

// mostPackets is MaxBag, as the document has it.
const mostPackets = 4096

// item is a packet whose bytes are a text, so that two of them can be compared.
type item struct {
	from, to int
	text     string
}

// packet is the item as a packet, in memory of its own.
func (i item) packet() api.Packet {
	return api.Packet{From: i.from, To: i.to, Bytes: []byte(i.text)}
}

func itemOf(p api.Packet) item { return item{p.From, p.To, string(p.Bytes)} }

// row is so many items of which no two are the same; each field alone tells them apart.
func row(many int) []item {
	out := make([]item, many)
	for i := range out {
		out[i] = item{i + 1, -i - 1, fmt.Sprint("packet ", i)}
	}
	return out
}

// rows are ones to begin with: none, one, and more.
func rows() [][]item {
	same := item{1, 2, "same"}
	return [][]item{nil, row(1), row(2), row(3), row(7), {same, same, same}, {{}, {}, {3, 0, ""}, {}}}
}

// bagOf is a bag with these packets.
func bagOf(t *testing.T, items ...item) *Bag {
	t.Helper()
	b := New()
	for i, one := range items {
		if e := b.Put(one.packet()); e != api.OK {
			t.Fatalf("Put of packet %d: %v", i, e)
		}
	}
	return b
}

// outside are numbers that no packet has in a bag of so many; some would have one in 32 bits.
func outside(many int) []int {
	return []int{
		-1, -2, -many - 1, -mostPackets, math.MinInt32, -1 << 32, 1 - 1<<32, math.MinInt + 1, math.MinInt,
		many, many + 1, many + 2, 2*many + 1, many + mostPackets, math.MaxInt32, 1 << 32, 1<<32 + 1, math.MaxInt - 1, math.MaxInt,
	}
}

// holds asks that a bag has just these packets, in this order.
func holds(t *testing.T, b *Bag, want ...item) {
	t.Helper()
	if b.Len() != len(want) {
		t.Fatalf("%d packets; want %d", b.Len(), len(want))
	}
	for i, one := range want {
		at(t, b, i, one, api.OK)
	}
	at(t, b, -1, item{}, api.ErrBag)
	at(t, b, len(want), item{}, api.ErrBag)
}

// answers holds what a call told against what it is to tell.
func answers(t *testing.T, call string, p api.Packet, e api.Errno, want item, wantError api.Errno) {
	t.Helper()
	if itemOf(p) != want || e != wantError {
		t.Errorf("%s: %.80q, %v; want %.80q, %v", call, fmt.Sprint(itemOf(p)), e, fmt.Sprint(want), wantError)
	}
}

func at(t *testing.T, b *Bag, i int, want item, wantError api.Errno) {
	t.Helper()
	p, e := b.At(i)
	answers(t, fmt.Sprintf("At(%d)", i), p, e, want, wantError)
}

func takes(t *testing.T, b *Bag, i int, want item, wantError api.Errno) {
	t.Helper()
	p, e := b.Take(i)
	answers(t, fmt.Sprintf("Take(%d)", i), p, e, want, wantError)
}

func copies(t *testing.T, b *Bag, i int, want api.Errno) {
	t.Helper()
	if e := b.Copy(i); e != want {
		t.Errorf("Copy(%d): %v; want %v", i, e, want)
	}
}

func puts(t *testing.T, b *Bag, one item, want api.Errno) {
	t.Helper()
	if e := b.Put(one.packet()); e != want {
		t.Errorf("Put of %.80q: %v; want %v", fmt.Sprint(one), e, want)
	}
}
