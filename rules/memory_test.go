package rules

import (
	"reflect"
	"slices"
	"testing"
)

const (
	// room is how many items of spare room a list is given, spare what they are filled with.
	room  = 9
	spare = 77
)

// fill makes each number n and each byte n's lowest, within structs too; lists within become nil.
func fill(v reflect.Value, n int) {
	switch v.Kind() {
	case reflect.Int:
		v.SetInt(int64(n))
	case reflect.Uint8:
		v.SetUint(uint64(byte(n)))
	case reflect.Struct:
		for i := range v.NumField() {
			fill(v.Field(i), n)
		}
	default:
		v.SetZero()
	}
}

// fillFrom fills what a list holds from an item on, spare room included.
func fillFrom(list reflect.Value, first, n int) {
	all := list.Slice(0, list.Cap())
	for i := first; i < all.Len(); i++ {
		fill(all.Index(i), n)
	}
}

// roomy is a copy in which each list has memory of its own, with spare room that is filled.
func roomy(v reflect.Value) reflect.Value {
	out := reflect.New(v.Type()).Elem()
	out.Set(v)
	switch v.Kind() {
	case reflect.Slice:
		out.Set(reflect.MakeSlice(v.Type(), v.Len(), v.Len()+room))
		for i := range v.Len() {
			out.Index(i).Set(roomy(v.Index(i)))
		}
		fillFrom(out, v.Len(), spare)
	case reflect.Struct:
		for i := range v.NumField() {
			out.Field(i).Set(roomy(v.Field(i)))
		}
	}
	return out
}

// lists are all lists of some values, each ahead of those within it.
func lists(values ...reflect.Value) []reflect.Value { return listsUpTo(reflect.Value.Len, values) }

// listsWithRoom are all lists of some values, those within spare room too.
func listsWithRoom(values ...reflect.Value) []reflect.Value {
	return listsUpTo(reflect.Value.Cap, values)
}

// listsUpTo are all lists of some values; of each, end tells up to where those within it are looked for.
func listsUpTo(end func(list reflect.Value) int, values []reflect.Value) []reflect.Value {
	var out []reflect.Value
	for _, v := range values {
		var within []reflect.Value
		switch v.Kind() {
		case reflect.Slice:
			out = append(out, v)
			for i := range end(v) {
				within = append(within, v.Slice(0, v.Cap()).Index(i))
			}
		case reflect.Struct:
			for i := range v.NumField() {
				within = append(within, v.Field(i))
			}
		}
		out = append(out, listsUpTo(end, within)...)
	}
	return out
}

// writeOver fills all lists of some values, those within others first.
func writeOver(values []reflect.Value) {
	for _, list := range slices.Backward(lists(values...)) {
		fillFrom(list, 0, 88)
	}
}

// same holds two values against each other; nil and empty are one.
func same(a, b reflect.Value) bool {
	switch a.Kind() {
	case reflect.Slice:
		return a.Len() == b.Len() && allSame(a.Len(), func(i int) bool { return same(a.Index(i), b.Index(i)) })
	case reflect.Struct:
		return allSame(a.NumField(), func(i int) bool { return same(a.Field(i), b.Field(i)) })
	}
	return a.Equal(b)
}

func allSame(many int, sameAt func(i int) bool) bool {
	for i := range many {
		if !sameAt(i) {
			return false
		}
	}
	return true
}

func sameAll(a, b []reflect.Value) bool { return slices.EqualFunc(a, b, same) }

// wasWritten tells whether something was written into the spare room of a list of roomy.
func wasWritten(list reflect.Value) bool {
	want := reflect.MakeSlice(list.Type(), room, room)
	fillFrom(want, 0, spare)
	return !same(list.Slice(list.Len(), list.Cap()), want)
}

// apart tells whether no two lists share memory, spare room included.
func apart(all []reflect.Value) bool {
	type region struct{ from, to uintptr }
	var regions []region
	for _, list := range all {
		if size := uintptr(list.Cap()) * list.Type().Elem().Size(); size > 0 {
			regions = append(regions, region{list.Pointer(), list.Pointer() + size})
		}
	}
	slices.SortFunc(regions, func(a, b region) int { return int(a.from) - int(b.from) })
	for i := 1; i < len(regions); i++ {
		if regions[i].from < regions[i-1].to {
			return false
		}
	}
	return true
}

// call is a function with its arguments; a variadic one's last argument is a list.
type call struct {
	name string
	f    any
	args []any
}

func (c call) do(args []reflect.Value) []reflect.Value {
	if f := reflect.ValueOf(c.f); !f.Type().IsVariadic() {
		return f.Call(args)
	}
	return reflect.ValueOf(c.f).CallSlice(args)
}

// values are the arguments as roomy copies.
func (c call) values() []reflect.Value {
	var out []reflect.Value
	for _, arg := range c.args {
		out = append(out, roomy(reflect.ValueOf(arg)))
	}
	return out
}

// keepsRules asks of a call that it changes and keeps nothing that it is handed, and that its answers are new memory and the same each time.
func keepsRules(t *testing.T, c call) {
	t.Helper()
	args, before := c.values(), c.values()
	one := c.do(args)
	if !sameAll(args, before) || slices.ContainsFunc(lists(args...), wasWritten) {
		t.Errorf("%s changed what it was handed", c.name)
	}
	two := c.do(args)
	if !apart(listsWithRoom(slices.Concat(args, one, two)...)) {
		t.Errorf("%s: lists share memory", c.name)
	}
	writeOver(one)
	three := c.do(args)
	if !sameAll(two, three) {
		t.Errorf("%s: another answer behind a write into an earlier one", c.name)
	}
	writeOver(args)
	if !sameAll(two, c.do(before)) {
		t.Errorf("%s kept what it was handed", c.name)
	}
}
