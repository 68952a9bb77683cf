package chain

import (
	"fmt"
	"reflect"
	"testing"

	"catenary/api"
)

// remade asks that a new replica that redoes another's records is that one, but for what is Pending.
func remade(t *testing.T, what string, n, me int, c *Core) {
	t.Helper()
	want := all(c)
	want.State.Pending = nil
	for range 2 {
		if at := differs("", reflect.ValueOf(all(core(t, n, me, c.Records()...))), reflect.ValueOf(want)); at != "" {
			t.Fatalf("%s: what its records make: %s", what, at)
		}
	}
}

// tellsRecords asks for the records, twice.
func tellsRecords(t *testing.T, what string, c *Core, want ...api.Msg) {
	t.Helper()
	for range 2 {
		if got := c.Records(); !equal(got, want) {
			t.Fatalf("%s: the records are\n%+v\nwant\n%+v", what, got, want)
		}
	}
}

func TestRecords(t *testing.T) { // P21.2: KSave, if Low is above 0; KPromise; KEnter, if it is active; what is known of slots
	for _, n := range rightNs {
		for _, me := range []int{0, 1, n - 1} {
			c, what := core(t, n, me), fmt.Sprintf("replica %d of %d", me, n)
			tellsRecords(t, what+" in the beginning", c, promise(b00), enter(b00, 0, from(0, n)))
			remade(t, what+" in the beginning", n, me, c)
			c.Redo(promise(b11))
			tellsRecords(t, what+" that promised", c, promise(b11))
			remade(t, what+" that promised", n, me, c)
			c.Redo(enter(b11, 7, around(1, n), put(1, 1), zero))
			tellsRecords(t, what+" that entered", c, promise(b11), enter(b11, 7, around(1, n), put(1, 1), zero))
			remade(t, what+" that entered", n, me, c)
			c.Redo(save(n, stateAt(9)))
			tellsRecords(t, what+" with a Low", c, save(n, stateAt(9)), promise(b11), enter(b11, 7, around(1, n), put(1, 1), zero))
			remade(t, what+" with a Low", n, me, c)
			c.Redo(promise(b50))
			tellsRecords(t, what+" that promised more", c, save(n, stateAt(9)), promise(b50))
			remade(t, what+" that promised more", n, me, c)
		}
	}
}

func TestRecordsOfLows(t *testing.T) { // P21.2: KSave of each Low above 0, the first slots' too
	for _, low := range []int{1, 2, 3, 4, 5, 100, mostSlot - 1, mostSlot} {
		c := core(t, 4, 1, save(4, stateAt(low)))
		tellsRecords(t, fmt.Sprint("Low ", low), c, save(4, stateAt(low)), promise(b00), enter(b00, 0, from(0, 4)))
		remade(t, fmt.Sprint("Low ", low), 4, 1, c)
		hasState(t, fmt.Sprint("Low ", low), c, low, stateAt(low))
	}
}

func TestSlotsRecords(t *testing.T) { // P21.2: of each slot what it has, by its number
	r, x := put(1, 9), get(2, 4)
	some, more := cert(4, chainKind, b10, 7, r), cert(4, ackKind, b10, 7, x)
	known := []api.Msg{voted(b50, 7, r), prepared(b20, 7, x, some), done(b10, 7, zero, more)}
	for which := range 8 {
		c := core(t, 4, 1)
		want := []api.Msg{promise(b00), enter(b00, 0, from(0, 4))}
		for _, slot := range []int{16, 7, 1} {
			for i := len(known) - 1; i >= 0; i-- {
				if m := known[i]; which>>i&1 > 0 {
					m.Slot = slot
					c.Redo(m)
				}
			}
		}
		for _, slot := range []int{1, 7, 16} {
			for i, m := range known {
				if m.Slot = slot; which>>i&1 > 0 {
					want = append(want, m)
				}
			}
		}
		what := fmt.Sprint("what is known ", which)
		tellsRecords(t, what, c, want...)
		remade(t, what, 4, 1, c)
	}
}

func TestRemade(t *testing.T) { // P21.2: in the midst of things; requests that wait aren't among the records
	for _, n := range rightNs {
		for me := range n {
			c, what := busy(t, n, me), fmt.Sprintf("replica %d of %d", me, n)
			remade(t, what, n, me, c)
			c.Redo(done(b10, 7, zero, nil), done(b10, 8, put(3, 8), nil))
			remade(t, what+" that did more", n, me, c)
			c.Redo(promise(b50))
			remade(t, what+" that promised", n, me, c)
			c.Redo(save(n, after(stateAt(4), put(2, 5), put(2, 6), zero)))
			remade(t, what+" with another Low", n, me, c)
			c.Redo(save(n, stateAt(mostSlot)), done(b50, mostSlot+1, zero, nil), done(b50, mostSlot+16, zero, nil), voted(b50, mostSlot+2, zero))
			remade(t, what+" at the end", n, me, c)
		}
	}
}

func TestRemadeGoesOn(t *testing.T) { // P21.2: it answers as the other does
	for me := range 4 {
		c := busy(t, 4, me)
		d := core(t, 4, me, c.Records()...)
		for _, r := range []api.Req{put(4, 3), put(3, 8)} {
			if got, want := d.Ask(r), c.Ask(r); !equal(got, want) {
				t.Errorf("replica %d: Ask tells\n%swant\n%s", me, lines(got), lines(want))
			}
		}
		for _, m := range []api.Msg{
			down(now, 9, put(1, 9), around(2, 4)[:max(0, placeOf(around(2, 4), me))]...), commits(now, 7, zero, 0, 1, 2), commits(now, 8, put(3, 8), 0, 1, 3),
			up(now, 10, put(1, 10), cert(4, chainKind, now, 10, put(1, 10)), 0, 3), up(now, 10, put(1, 10), cert(4, chainKind, now, 10, put(1, 10)), 0),
		} {
			if got, want := d.Take(m), c.Take(m); !equal(got, want) || !equal(all(d), all(c)) {
				t.Errorf("replica %d: Take of kind %d tells\n%swant\n%s", me, m.Kind, lines(got), lines(want))
			}
		}
	}
}

// placeOf is where a replica stands in an order.
func placeOf(order []int, r int) int {
	for i, other := range order {
		if other == r {
			return i
		}
	}
	return -1
}
