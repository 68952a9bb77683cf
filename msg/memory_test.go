package msg

import (
	"bytes"
	"reflect"
	"slices"
	"strconv"
	"testing"

	"catenary/api"
)

const (
	// room is how many items of spare room a list is given, spare what they are filled with.
	room  = 9
	spare = 77
)

// fillWith makes each number n and each byte n's lowest, within structs too; lists within become nil.
func fillWith(v reflect.Value, n int) {
	switch v.Kind() {
	case reflect.Int:
		v.SetInt(int64(n))
	case reflect.Uint8:
		v.SetUint(uint64(byte(n)))
	case reflect.Slice:
		v.SetZero()
	default:
		for i := range v.NumField() {
			fillWith(v.Field(i), n)
		}
	}
}

// fillList fills what a list or text holds from an item on, spare room included.
func fillList(v reflect.Value, from, n int) {
	all := v.Slice(0, v.Cap())
	for i := from; i < all.Len(); i++ {
		fillWith(all.Index(i), n)
	}
}

// makeRoomy gives each list and text memory of its own, with spare room that is filled.
func makeRoomy(v reflect.Value) {
	switch v.Kind() {
	case reflect.Slice:
		own := reflect.MakeSlice(v.Type(), v.Len(), v.Len()+room)
		reflect.Copy(own, v)
		fillList(own, v.Len(), spare)
		v.Set(own)
		for i := range v.Len() {
			makeRoomy(v.Index(i))
		}
	case reflect.Struct:
		for i := range v.NumField() {
			makeRoomy(v.Field(i))
		}
	}
}

func roomy(m api.Msg) api.Msg {
	makeRoomy(reflect.ValueOf(&m).Elem())
	return m
}

// wasWritten tells whether a message of roomy isn't what it was, spare room included.
func wasWritten(got, want api.Msg) bool {
	for _, v := range lists(&got) {
		filled := reflect.MakeSlice(v.Type(), room, room)
		fillList(filled, 0, spare)
		if !same(v.Slice(v.Len(), v.Cap()), filled) {
			return true
		}
	}
	return !sameMessage(got, want)
}

// writeOver fills all lists and texts of a message, those within others first.
func writeOver(m *api.Msg) {
	for _, v := range slices.Backward(lists(m)) {
		fillList(v, 0, 88)
	}
}

// apart tells whether no two of some lists and texts share memory, spare room included.
func apart(all []reflect.Value) bool {
	type region struct{ from, to uintptr }
	var regions []region
	for _, v := range all {
		if size := uintptr(v.Cap()) * v.Type().Elem().Size(); size > 0 {
			regions = append(regions, region{v.Pointer(), v.Pointer() + size})
		}
	}
	slices.SortFunc(regions, func(a, b region) int { return int(a.from) - int(b.from) })
	for i := 1; i < len(regions); i++ {
		if regions[i].from < regions[i-1].to {
			return false
		}
	}
	return true
}

func TestEncodeLeavesMessages(t *testing.T) {
	wants := map[string]api.Msg{}
	for _, kind := range kinds {
		name := strconv.Itoa(kind)
		wants[name] = full(kind)
		noKind, notHad := full(kind), full(kind)
		noKind.Kind = 14
		notHad.Count, notHad.To = 1, 1
		wants[name+" made no kind"], wants[name+" with other fields"] = noKind, notHad
	}
	for name, long := range longMessages {
		wants[name] = long(t, api.MaxMsg+1)
	}
	for name, want := range wants {
		m := roomy(want)
		Encode(m)
		if wasWritten(m, want) {
			t.Errorf("Encode changed a message: %s", name)
		}
	}
}

func TestEncodeLeavesWrongMessages(t *testing.T) {
	for _, kind := range kinds {
		m := full(kind)
		walkHad(&m, func(path string, v reflect.Value) {
			spoil(v)
			bad := roomy(m)
			Encode(bad)
			if wasWritten(bad, m) {
				t.Errorf("Encode changed a message that it refuses: %s", path)
			}
		})
	}
}

func TestEncodeIsNewMemory(t *testing.T) {
	for _, kind := range kinds {
		m := roomy(full(kind))
		want := spell(m).b
		one, _ := Encode(m)
		two, _ := Encode(m)
		if !apart(append(lists(&m), reflect.ValueOf(one), reflect.ValueOf(two))) {
			t.Errorf("an answer of Encode shares memory: kind %d", kind)
		}
		fillList(reflect.ValueOf(one), 0, 99)
		if three, _ := Encode(m); !bytes.Equal(three, want) {
			t.Errorf("Encode of kind %d behind a write into its earlier answer: %v; want %v", kind, three, want)
		}
		writeOver(&m)
		if !bytes.Equal(two, want) {
			t.Errorf("Encode kept a message of kind %d", kind)
		}
	}
}

func TestDecodeLeavesBytes(t *testing.T) {
	for _, kind := range kinds {
		whole := spell(full(kind)).b
		for k := range len(whole) + 1 {
			b := append(bytes.Clone(whole[:k]), bytes.Repeat([]byte{spare}, room)...)
			Decode(b[:k])
			if !bytes.Equal(b[:k], whole[:k]) || !bytes.Equal(b[k:], bytes.Repeat([]byte{spare}, room)) {
				t.Errorf("Decode changed the first %d bytes of kind %d, or the room behind them", k, kind)
			}
		}
	}
}

func TestDecodeIsNewMemory(t *testing.T) {
	for _, kind := range kinds {
		want := full(kind)
		b := spell(want).b
		one, _ := Decode(b)
		two, _ := Decode(b)
		if !apart(slices.Concat(lists(&one), lists(&two), []reflect.Value{reflect.ValueOf(b)})) {
			t.Errorf("lists of answers of Decode share memory: kind %d", kind)
		}
		writeOver(&one)
		if three, e := Decode(b); e != api.OK || !sameMessage(three, want) {
			t.Errorf("Decode of kind %d behind a write into its earlier answer: %v, %v; want %v", kind, three, e, want)
		}
		fillList(reflect.ValueOf(b), 0, 99)
		if !sameMessage(two, want) {
			t.Errorf("Decode kept the bytes of kind %d", kind)
		}
	}
}

func TestBodyMemory(t *testing.T) {
	full := api.Req{Client: 1, Stamp: 2, Op: []byte("operation"), Sig: []byte("signature")}
	for _, r := range []api.Req{full, {}, {Op: full.Op}, {Sig: full.Sig}} {
		m := roomy(api.Msg{Req: r})
		want := wantBody(r)
		one, two := Body(m.Req), Body(m.Req)
		if wasWritten(m, api.Msg{Req: r}) {
			t.Errorf("Body changed a request: %v", r)
		}
		if !apart(append(lists(&m), reflect.ValueOf(one), reflect.ValueOf(two))) {
			t.Errorf("an answer of Body shares memory: %v", r)
		}
		fillList(reflect.ValueOf(one), 0, 99)
		if three := Body(m.Req); !bytes.Equal(three, want) {
			t.Errorf("Body behind a write into its earlier answer: %v; want %v", three, want)
		}
		writeOver(&m)
		if !bytes.Equal(two, want) {
			t.Errorf("Body kept a request: %v", r)
		}
	}
}

func TestAnswersHangOnArguments(t *testing.T) { // P2: whatever was asked ahead, or refused
	for _, kind := range kinds {
		for _, before := range kinds {
			what := strconv.Itoa(kind) + " behind " + strconv.Itoa(before)
			m := full(before)
			Encode(m)
			m.Kind = 14
			Encode(m)
			b := spell(full(before)).b
			Decode(b[:len(b)-1])
			takes(t, what, full(kind))
			takes(t, what, api.Msg{Kind: kind})
		}
	}
}
