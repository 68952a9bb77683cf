package bag

import (
	"fmt"
	"math/rand"
	"slices"
	"testing"

	"catenary/api"
)

// told is a bag as the chapter tells it: a linked row, in which nothing moves.
type told struct {
	first *link
}

type link struct {
	item
	next *link
}

// place is where the link of a number hangs, or nil if there is none of that number.
func (m *told) place(i int) **link {
	at := &m.first
	for ; *at != nil; at = &(*at).next {
		if i == 0 {
			return at
		}
		i--
	}
	return nil
}

// items are all that it has.
func (m *told) items() []item {
	var out []item
	for l := m.first; l != nil; l = l.next {
		out = append(out, l.item)
	}
	return out
}

func (m *told) put(one item) api.Errno {
	if len(m.items()) == mostPackets {
		return api.ErrBagMany
	}
	end := &m.first
	for *end != nil {
		end = &(*end).next
	}
	*end = &link{item: one}
	return api.OK
}

func (m *told) at(i int) (item, api.Errno) {
	if p := m.place(i); p != nil {
		return (*p).item, api.OK
	}
	return item{}, api.ErrBag
}

func (m *told) take(i int) (item, api.Errno) {
	one, e := m.at(i)
	if p := m.place(i); p != nil {
		*p = (*p).next
	}
	return one, e
}

func (m *told) copy(i int) api.Errno {
	one, e := m.at(i)
	if e != api.OK {
		return e
	}
	return m.put(one)
}

// drawnCall does a call that is drawn to a bag and to what is told of it: its name, what it is to answer, and whether it did.
func drawnCall(draw *rand.Rand, b *Bag, m *told) (string, api.Errno, bool) {
	i := draw.Intn(b.Len()+3) - 1
	switch kind := draw.Intn(10); {
	case kind < 4:
		one := item{draw.Intn(5), draw.Intn(5), fmt.Sprint(draw.Intn(1000))}
		want := m.put(one)
		return fmt.Sprint("Put of ", one), want, b.Put(one.packet()) == want
	case kind < 5:
		p, e := b.At(i)
		one, want := m.at(i)
		return fmt.Sprintf("At(%d)", i), want, itemOf(p) == one && e == want
	case kind < 8:
		p, e := b.Take(i)
		one, want := m.take(i)
		return fmt.Sprintf("Take(%d)", i), want, itemOf(p) == one && e == want
	}
	want := m.copy(i)
	return fmt.Sprintf("Copy(%d)", i), want, b.Copy(i) == want
}

// itemsOf are all packets of a bag.
func itemsOf(b *Bag) []item {
	var out []item
	for i := range b.Len() {
		p, _ := b.At(i)
		out = append(out, itemOf(p))
	}
	return out
}

// drawnCalls does so many calls to a bag that has so many packets, and counts what they were to answer.
func drawnCalls(t *testing.T, draw *rand.Rand, start, calls int, met map[api.Errno]int) {
	t.Helper()
	b, m := New(), &told{}
	for _, one := range slices.Backward(row(start)) {
		m.first = &link{one, m.first}
	}
	for _, one := range row(start) {
		b.Put(one.packet())
	}
	did := []string{fmt.Sprintf("%d packets", start)}
	for range calls {
		name, want, right := drawnCall(draw, b, m)
		did = append(did, name)
		met[want]++
		if !right || !slices.Equal(itemsOf(b), m.items()) {
			t.Fatalf("behind %q: %.300q; want %v, %.300q", did, fmt.Sprint(itemsOf(b)), want, fmt.Sprint(m.items()))
		}
	}
}

func TestDrawnCalls(t *testing.T) { // P13.1: in any order, to small bags and to ones that are nearly full
	draw := rand.New(rand.NewSource(13))
	met := map[api.Errno]int{}
	for range 300 {
		drawnCalls(t, draw, draw.Intn(4), 60, met)
	}
	for range 20 {
		drawnCalls(t, draw, mostPackets-draw.Intn(3), 60, met)
	}
	for _, e := range []api.Errno{api.OK, api.ErrBag, api.ErrBagMany} {
		if met[e] < 100 {
			t.Errorf("only %d calls were to answer %v", met[e], e)
		}
	}
}
