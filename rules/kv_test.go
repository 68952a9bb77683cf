package rules

import (
	"bytes"
	"reflect"
	"slices"
	"strconv"
	"testing"

	"catenary/api"
	"catenary/kv"
)

func someEntries() []api.Entry {
	return []api.Entry{{Name: []byte("b"), Value: []byte("one")}, {Name: []byte("bb")}, {Name: []byte("d"), Value: []byte("two")}}
}

// manyEntries are as many as are asked for, with rising Names.
func manyEntries(many int) []api.Entry {
	var out []api.Entry
	for i := range many {
		out = append(out, api.Entry{Name: []byte{'b', byte(i)}, Value: []byte("value")})
	}
	return out
}

// ops are operations of all kinds, and of none, that can and can't be written, on Names that someEntries has and hasn't.
func ops() []api.Op {
	one, two, long := []byte("one"), []byte("two"), bytes.Repeat([]byte("x"), api.MaxValue+1)
	var out []api.Op
	for kind := range 10 {
		for _, name := range []string{"", "a", "b", "bb", "c", "d", "e"} {
			n := []byte(name)
			out = append(out,
				api.Op{Kind: kind, Name: n},
				api.Op{Kind: kind, Name: n, A: one},
				api.Op{Kind: kind, Name: n, B: two},
				api.Op{Kind: kind, Name: n, A: one, B: two},
				api.Op{Kind: kind, Name: n, A: two, B: one},
				api.Op{Kind: kind, Name: n, Num: 7},
				api.Op{Kind: kind, Name: n, A: long, B: long},
			)
		}
	}
	return out
}

func TestOps(t *testing.T) {
	for _, o := range ops() {
		keepsRules(t, call{"Write", kv.Write, []any{o}})
		b, _ := kv.Write(o)
		keepsRules(t, call{"Read", kv.Read, []any{b}})
		keepsRules(t, call{"Read of more", kv.Read, []any{append(b, 0)}})
	}
}

// entryLists are lists of entries, right and not.
func entryLists() [][]api.Entry {
	some := someEntries()
	falling := someEntries()
	slices.Reverse(falling)
	return [][]api.Entry{nil, {}, some[:1], some, manyEntries(63), manyEntries(64), manyEntries(65), falling, {some[0], some[0]}, {{}, some[0]}}
}

func TestEntries(t *testing.T) {
	for i, l := range entryLists() {
		keepsRules(t, call{"Right of list " + strconv.Itoa(i), kv.Right, []any{l}})
		for _, o := range ops() {
			keepsRules(t, call{"Do of list " + strconv.Itoa(i) + ", kind " + strconv.Itoa(o.Kind), kv.Do, []any{l, o}})
		}
	}
}

func TestOpsHangOnArguments(t *testing.T) { // P2: whatever was done ahead, or refused
	want := []api.Entry{{Name: []byte("b"), Value: []byte("one")}, {Name: []byte("bb"), Value: []byte("new")}, {Name: []byte("d"), Value: []byte("two")}}
	for _, l := range entryLists() {
		for _, o := range ops() {
			kv.Do(l, o)
			b, _ := kv.Write(o)
			kv.Read(append(b, 1))
			got, result := kv.Do(someEntries(), api.Op{Kind: api.OpPut, Name: []byte("bb"), A: []byte("new")})
			if !same(reflect.ValueOf(got), reflect.ValueOf(want)) || result.Code != api.Yes || len(result.Value) > 0 {
				t.Fatalf("a put behind %v on %v: %v, %v", o, l, got, result)
			}
		}
	}
}
