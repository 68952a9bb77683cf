package lease

import (
	"bytes"
	"encoding/binary"
	"math"
	"slices"
	"testing"

	"catenary/api"
)

// lastNow is the last slot at which an operation is done: MaxInt - MaxTerm.
const lastNow = 2147483647 - 1000

// kinds are the numbers of the kinds of operations on leases.
var kinds = []int{5, 6, 7, 8}

// noKinds are numbers of no kind, and of those below OpAcquire; some have the number of a kind of lease in their lowest bits.
var noKinds = []int{math.MinInt, math.MinInt + 5, -1<<32 + 6, -250, -8, -5, -1, 0, 1, 2, 3, 4, 9, 10, 127, 128, 133, 261, 1 << 16, math.MaxInt32, 1<<32 + 5, 1<<32 + 8, math.MaxInt}

// noClients are numbers of no client; some have a client's in their lowest bits.
var noClients = []int{math.MinInt, math.MinInt + 1, -1<<32 + 1, -255, -4, -1, 0, 5, 6, 100, 101, 257, math.MaxInt32, 1<<32 + 1, math.MaxInt}

// noNows are slots at which nothing is done.
var noNows = []int{math.MinInt, -1 << 32, -1<<32 + 5, -1000, -2, -1, lastNow + 1, lastNow + 2, math.MaxInt32 - 1, math.MaxInt32, math.MaxInt32 + 1, 1 << 32, 1<<32 + 5, math.MaxInt - 1000, math.MaxInt}

// noUntils are slots up to which no lease is held.
var noUntils = []int{math.MinInt, -1<<32 + 8, -1, 0, math.MaxInt32 + 1, 1 << 32, 1<<32 + 8, math.MaxInt}

func lease(name string, owner, until int) api.Lease {
	return api.Lease{Name: []byte(name), Owner: owner, Until: until}
}

func acquire(name string, num int) api.Op {
	return api.Op{Kind: api.OpAcquire, Name: []byte(name), Num: num}
}

func renew(name string, num int) api.Op {
	return api.Op{Kind: api.OpRenew, Name: []byte(name), Num: num}
}

func release(name string) api.Op { return api.Op{Kind: api.OpRelease, Name: []byte(name)} }

func holder(name string) api.Op { return api.Op{Kind: api.OpHolder, Name: []byte(name)} }

// allOps are an operation of each kind on a name.
func allOps(name string) []api.Op {
	return []api.Op{acquire(name, 1), acquire(name, 1000), renew(name, 1), renew(name, 1000), release(name), holder(name)}
}

// text is a text of some size that isn't all one byte.
func text(size int) []byte {
	b := make([]byte, size)
	for i := range b {
		b[i] = byte(200 + 7*i)
	}
	return b
}

// row is as many leases as are asked for, their Names the letters n and an even number, so that between two of them there is room for another. Their Owners take turns, and they end at a slot and behind it.
func row(many, until int) []api.Lease {
	var l []api.Lease
	for i := range many {
		l = append(l, lease(letters(2*i), 1+i%4, until+i))
	}
	return l
}

func letters(i int) string { return string([]byte{'n', byte(i)}) }

// value is an Owner and how long it still holds, as bytes that are made without the layers below.
func value(owner, left int) string {
	return string(binary.AppendUvarint(binary.AppendUvarint(nil, uint64(owner)), uint64(left)))
}

func sameLeases(a, b []api.Lease) bool {
	return slices.EqualFunc(a, b, func(a, b api.Lease) bool {
		return bytes.Equal(a.Name, b.Name) && a.Owner == b.Owner && a.Until == b.Until
	})
}

// with is a copy of leases in which that at a place is another.
func with(l []api.Lease, at int, other api.Lease) []api.Lease {
	return slices.Concat(l[:at], []api.Lease{other}, l[at+1:])
}

// without is a copy of leases in which that at a place isn't any more.
func without(l []api.Lease, at int) []api.Lease { return slices.Concat(l[:at], l[at+1:]) }

// and is a copy of leases in which another stands at a place.
func and(l []api.Lease, at int, other api.Lease) []api.Lease {
	return slices.Concat(l[:at], []api.Lease{other}, l[at:])
}

// does asks what comes of an operation on leases, and which there are behind it.
func does(t *testing.T, l []api.Lease, o api.Op, client, now int, want []api.Lease, code int, value string) {
	t.Helper()
	got, result := Do(l, o, client, now)
	if result.Code != code || string(result.Value) != value {
		t.Errorf("Do(%v, %v, %d, %d): code %d with %q; want %d with %q", l, o, client, now, result.Code, result.Value, code, value)
	}
	if !sameLeases(got, want) {
		t.Errorf("Do(%v, %v, %d, %d): %v; want %v", l, o, client, now, got, want)
	}
}

// stays asks that an operation is bad on leases, and that they stay as they are, those too that are over.
func stays(t *testing.T, l []api.Lease, o api.Op, client, now int) {
	t.Helper()
	does(t, l, o, client, now, l, api.Bad, "")
}

// holds asks who holds a name, and for how long.
func holds(t *testing.T, l []api.Lease, name string, now, owner, left int) {
	t.Helper()
	if gotOwner, gotLeft := Holder(l, []byte(name), now); gotOwner != owner || gotLeft != left {
		t.Errorf("Holder(%v, %q, %d) = %d, %d; want %d, %d", l, name, now, gotOwner, gotLeft, owner, left)
	}
}
