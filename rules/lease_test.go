package rules

import (
	"reflect"
	"slices"
	"strconv"
	"testing"

	"catenary/api"
	"catenary/lease"
)

func someLeases() []api.Lease {
	return []api.Lease{{Name: []byte("b"), Owner: 1, Until: 8}, {Name: []byte("bb"), Owner: 2, Until: 5}, {Name: []byte("d"), Owner: 3, Until: 300}}
}

// manyLeases are as many as are asked for, with rising Names.
func manyLeases(many int) []api.Lease {
	var out []api.Lease
	for i := range many {
		out = append(out, api.Lease{Name: []byte{'b', byte(i)}, Owner: 1 + i%4, Until: 5 + i})
	}
	return out
}

// leaseLists are lists of leases, right and not.
func leaseLists() [][]api.Lease {
	some := someLeases()
	falling := someLeases()
	slices.Reverse(falling)
	return [][]api.Lease{nil, {}, some[:1], some, manyLeases(15), manyLeases(16), manyLeases(17), falling, {some[0], some[0]}, {{}, some[0]}}
}

// leaseOps are operations on leases, and some others, on Names that someLeases has and hasn't.
func leaseOps() []api.Op {
	return slices.DeleteFunc(ops(), func(o api.Op) bool { return o.Kind < api.OpDelete || len(o.B) > 0 })
}

func TestLeases(t *testing.T) {
	for i, l := range leaseLists() {
		list := strconv.Itoa(i)
		keepsRules(t, call{"Right of list " + list, lease.Right, []any{l}})
		for _, now := range []int{-1, 0, 5, 6, 10, 1000} {
			for _, name := range []string{"", "b", "bb", "c"} {
				keepsRules(t, call{"Holder of list " + list, lease.Holder, []any{l, []byte(name), now}})
			}
			for _, o := range leaseOps() {
				for _, client := range []int{0, 1, 2} {
					keepsRules(t, call{"Do of list " + list + ", kind " + strconv.Itoa(o.Kind), lease.Do, []any{l, o, client, now}})
				}
			}
		}
	}
}

func TestLeasesHangOnArguments(t *testing.T) { // P2: whatever was done ahead, or refused; a slot may come again, too
	want := []api.Lease{{Name: []byte("b"), Owner: 1, Until: 8}, {Name: []byte("bb"), Owner: 4, Until: 15}, {Name: []byte("d"), Owner: 3, Until: 300}}
	for _, l := range leaseLists() {
		for _, o := range leaseOps() {
			for _, now := range []int{-1, 0, 10, 1000} {
				lease.Do(l, o, 1, now)
				lease.Holder(l, o.Name, now)
				got, result := lease.Do(someLeases(), api.Op{Kind: api.OpAcquire, Name: []byte("bb"), Num: 10}, 4, 5)
				if !same(reflect.ValueOf(got), reflect.ValueOf(want)) || result.Code != api.Yes || len(result.Value) > 0 {
					t.Fatalf("an acquire behind %v on %v: %v, %v", o, l, got, result)
				}
			}
		}
	}
}
