package rules

import (
	"reflect"
	"strconv"
	"testing"

	"catenary/api"
	"catenary/bag"
)

func somePackets() []api.Packet {
	return []api.Packet{{From: 1, To: 2, Bytes: []byte("one")}, {From: 2, To: 1}, {Bytes: []byte{}}, {From: 101, To: 3, Bytes: []byte("some more bytes")}}
}

// bags are such ways to make a bag that each call takes all ways: empty, of one and of some packets, with copies, behind Take, nearly full and full.
func bags() map[string]func() *bag.Bag {
	start := func(many int) *bag.Bag {
		b := bag.New()
		for i := range many {
			b.Put(somePackets()[i%4])
		}
		return b
	}
	return map[string]func() *bag.Bag{
		"an empty bag":      func() *bag.Bag { return start(0) },
		"a bag of one":      func() *bag.Bag { return start(1) },
		"a bag of four":     func() *bag.Bag { return start(4) },
		"a nearly full bag": func() *bag.Bag { return start(api.MaxBag - 1) },
		"a full bag":        func() *bag.Bag { return start(api.MaxBag) },
		"a bag of copies": func() *bag.Bag {
			b := start(2)
			b.Copy(0)
			b.Copy(2)
			return b
		},
		"a bag behind Take": func() *bag.Bag {
			b := start(6)
			b.Take(0)
			b.Take(2)
			b.Take(3)
			return b
		},
		"an emptied bag": func() *bag.Bag {
			b := start(1)
			b.Take(0)
			return b
		},
	}
}

// packetNumbers are of a bag's first packets, of its last, and of none.
func packetNumbers(b *bag.Bag) []int { return []int{-1, 0, 1, b.Len() - 1, b.Len(), b.Len() + 1} }

// ends are the first and the last packets of a bag, up to five of each.
func ends(b *bag.Bag) []api.Packet {
	var out []api.Packet
	for i := range b.Len() {
		if i < 5 || i >= b.Len()-5 {
			p, _ := b.At(i)
			out = append(out, p)
		}
	}
	return out
}

func TestBags(t *testing.T) {
	for which, start := range bags() {
		for _, p := range somePackets() {
			keepsRules(t, call{"Put to " + which, func(p api.Packet) (api.Errno, []api.Packet) {
				b := start()
				return b.Put(p), ends(b)
			}, []any{p}})
		}
		// One bag for all calls of At, which are asked often: nothing that was answered is what it keeps.
		kept := start()
		for _, i := range packetNumbers(start()) {
			name := " of " + strconv.Itoa(i) + ", " + which
			keepsRules(t, call{"At" + name, kept.At, []any{i}})
			keepsRules(t, call{"Take" + name, func(i int) (api.Packet, api.Errno, []api.Packet) {
				b := start()
				p, e := b.Take(i)
				return p, e, ends(b)
			}, []any{i}})
			keepsRules(t, call{"Copy" + name, func(i int) (api.Errno, []api.Packet) {
				b := start()
				return b.Copy(i), ends(b)
			}, []any{i}})
		}
	}
}

// unchanged asks that a bag's packets are as they were.
func unchanged(t *testing.T, what string, b *bag.Bag, was []api.Packet) {
	t.Helper()
	if got := ends(b); !same(reflect.ValueOf(got), reflect.ValueOf(was)) {
		t.Errorf("%s: %v became %v", what, was, got)
	}
}

func TestBagsKeepNothing(t *testing.T) { // what was put may be written over, while the bag is still there
	for which, start := range bags() {
		for _, p := range somePackets() {
			b, c := start(), call{args: []any{p, p}}
			args, before := c.values(), c.values()
			b.Put(args[0].Interface().(api.Packet))
			b.Put(args[1].Interface().(api.Packet))
			b.Copy(b.Len() - 1)
			was := ends(b)
			if !sameAll(args, before) || wasWritten(args[0].Field(2)) || wasWritten(args[1].Field(2)) {
				t.Errorf("Put to %s changed what it was handed", which)
			}
			writeOver(args)
			unchanged(t, "what was put to "+which+" was written over", b, was)
		}
	}
}

func TestToldPacketsAreTheCallers(t *testing.T) { // what was told may be written over: no packet changes, copies and what they are of included
	for which, start := range bags() {
		for _, i := range packetNumbers(start()) {
			b := start()
			b.Copy(i)
			was := ends(b)
			one, _ := b.At(i)
			other, _ := b.At(b.Len() - 1)
			told := []reflect.Value{reflect.ValueOf(one), reflect.ValueOf(other)}
			if !apart(listsWithRoom(told...)) {
				t.Errorf("At of %d and of its copy, %s: they share memory", i, which)
			}
			writeOver(told)
			unchanged(t, "what was told of "+which+" was written over", b, was)
		}
	}
}

func TestTakenPacketsAreTheCallers(t *testing.T) { // a copy stays as it is when what it was made of is taken and written over, and the other way round
	for which, start := range bags() {
		for i := range min(4, start().Len()) {
			for _, ofCopy := range []bool{false, true} {
				b := start()
				b.Take(b.Len() - 1)
				if b.Copy(i) != api.OK {
					continue
				}
				which, stays := which+", packet "+strconv.Itoa(i), b.Len()-2
				taken := i
				if ofCopy {
					taken, stays = b.Len()-1, i
				}
				p, _ := b.Take(taken)
				want := string(p.Bytes)
				was := ends(b)
				writeOver([]reflect.Value{reflect.ValueOf(p)})
				unchanged(t, "what was taken of "+which+" was written over", b, was)
				if other, e := b.At(stays); e != api.OK || string(other.Bytes) != want {
					t.Errorf("%s: the other one is %q, %v; want %q", which, other.Bytes, e, want)
				}
			}
		}
	}
}

func TestTakenPacketsStay(t *testing.T) { // an answer doesn't change with the bag
	for which, start := range bags() {
		b := start()
		told, e := b.At(0)
		taken, f := b.Take(0)
		if e != f {
			t.Errorf("At and Take of %s: %v, %v", which, e, f)
		}
		was := string(told.Bytes)
		for range 3 {
			b.Put(api.Packet{From: 9, To: 9, Bytes: []byte("XYZXYZXYZ")})
			b.Copy(0)
			b.Take(1)
		}
		if string(told.Bytes) != was || string(taken.Bytes) != was || told.From != taken.From || told.To != taken.To {
			t.Errorf("%s: %q became %q, %q", which, was, told.Bytes, taken.Bytes)
		}
	}
}

func TestBagsHangOnThemselves(t *testing.T) { // P2: whatever was done ahead to other bags, or refused
	want := somePackets()
	for which, start := range bags() {
		other, b := start(), bag.New()
		for _, p := range somePackets() {
			other.Put(p)
			other.Copy(0)
			b.Put(p)
			other.Take(1)
			other.At(-1)
		}
		unchanged(t, "a bag beside "+which, b, want)
		if b.Len() != len(want) {
			t.Errorf("a bag beside %s has %d packets", which, b.Len())
		}
	}
}
