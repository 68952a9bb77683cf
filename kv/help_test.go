package kv

import (
	"bytes"
	"encoding/binary"
	"math"
	"slices"
	"testing"

	"catenary/api"
)

// kinds are the numbers of the operations' kinds.
var kinds = []int{1, 2, 3, 4, 5, 6, 7, 8}

// noKinds are numbers of no kind; some have a kind's in their lowest bits.
var noKinds = []int{math.MinInt, math.MinInt + 1, -1<<32 + 2, -256, -255, -8, -2, -1, 0, 9, 10, 127, 128, 129, 257, 1 << 16, api.MaxInt, api.MaxInt + 1, 1 << 32, 1<<32 + 1, math.MaxInt - 1, math.MaxInt}

// sizes of texts, those ahead of and behind the limits among them.
var sizes = []int{0, 1, 2, 15, 16, 17, 63, 64, 65, 127, 128, 256, 1000}

// nums are of all sizes, those ahead of and behind the limits among them.
var nums = []int{math.MinInt, -1 << 32, -1<<32 + 1, -1000, -1, 0, 1, 2, 127, 128, 300, 999, 1000, 1001, 1002, api.MaxInt, api.MaxInt + 1, 1 << 32, 1<<32 + 1, math.MaxInt}

// text is a text of some size that isn't all one byte.
func text(size int) []byte {
	b := make([]byte, size)
	for i := range b {
		b[i] = byte(200 + 7*i)
	}
	return b
}

// least is an operation of a kind with as little as can be.
func least(kind int) api.Op {
	o := api.Op{Kind: kind, Name: []byte("n")}
	if kind == 5 || kind == 6 {
		o.Num = 1
	}
	return o
}

// most is an operation of a kind with as much as can be.
func most(kind int) api.Op {
	o := api.Op{Kind: kind, Name: text(16)}
	switch kind {
	case 2:
		o.A = text(64)
	case 3:
		o.A, o.B = text(64), text(63)
	case 5, 6:
		o.Num = 1000
	}
	return o
}

// spelling is an operation's bytes, made without the layers below, and where its numbers stand in them.
type spelling struct {
	b       []byte
	numbers []int
}

func (s *spelling) number(n int) {
	s.numbers = append(s.numbers, len(s.b))
	s.b = binary.AppendUvarint(s.b, uint64(n))
}

func (s *spelling) text(p []byte) {
	s.number(len(p))
	s.b = append(s.b, p...)
}

// spell spells what can't be written, too.
func spell(o api.Op) spelling {
	var s spelling
	s.number(o.Kind)
	s.text(o.Name)
	s.text(o.A)
	s.text(o.B)
	s.number(o.Num)
	return s
}

func sameOp(a, b api.Op) bool {
	return a.Kind == b.Kind && a.Num == b.Num && bytes.Equal(a.Name, b.Name) && bytes.Equal(a.A, b.A) && bytes.Equal(a.B, b.B)
}

// takes asks that an operation can be written, as it is spelt, and is read again.
func takes(t *testing.T, o api.Op) {
	t.Helper()
	want := spell(o).b
	if b, e := Write(o); e != api.OK || !bytes.Equal(b, want) {
		t.Errorf("Write(%v) = %v, %v; want %v", o, b, e, want)
	}
	if got, e := Read(want); e != api.OK || !sameOp(got, o) {
		t.Errorf("Read(%v) = %v, %v; want %v", want, got, e, o)
	}
}

// refuses asks that an operation can't be written, and that what would be its bytes are none.
func refuses(t *testing.T, o api.Op) {
	t.Helper()
	if b, e := Write(o); e != api.ErrOp || len(b) != 0 {
		t.Errorf("Write(%v) = %v, %v; want ErrOp alone", o, b, e)
	}
	refusesBytes(t, spell(o).b)
}

func refusesBytes(t *testing.T, b []byte) {
	t.Helper()
	if o, e := Read(b); e != api.ErrOp || !sameOp(o, api.Op{}) {
		t.Errorf("Read(%v) = %v, %v; want ErrOp alone", b, o, e)
	}
}

// takesIf asks that an operation can be written, or that it can't.
func takesIf(t *testing.T, may bool, o api.Op) {
	t.Helper()
	if may {
		takes(t, o)
	} else {
		refuses(t, o)
	}
}

func sameEntry(a, b api.Entry) bool {
	return bytes.Equal(a.Name, b.Name) && bytes.Equal(a.Value, b.Value)
}

func sameEntries(a, b []api.Entry) bool { return slices.EqualFunc(a, b, sameEntry) }

// does asks what comes of an operation on entries, and which there are behind it.
func does(t *testing.T, l []api.Entry, o api.Op, want []api.Entry, code int, value string) {
	t.Helper()
	got, result := Do(l, o)
	if result.Code != code || string(result.Value) != value {
		t.Errorf("Do(%q, %v): code %d with %q; want %d with %q", l, o, result.Code, result.Value, code, value)
	}
	if !sameEntries(got, want) {
		t.Errorf("Do(%q, %v): %q; want %q", l, o, got, want)
	}
}

// stays asks that an operation is bad on entries, and that they stay as they are.
func stays(t *testing.T, l []api.Entry, o api.Op) {
	t.Helper()
	does(t, l, o, l, api.Bad, "")
}

// entries are made of Names and Values in turn.
func entries(texts ...string) []api.Entry {
	var l []api.Entry
	for i := 0; i < len(texts); i += 2 {
		l = append(l, api.Entry{Name: []byte(texts[i]), Value: []byte(texts[i+1])})
	}
	return l
}

// row is as many entries as are asked for, their Names the even numbers' letters, so that between two of them there is room for another.
func row(many int) []api.Entry {
	var l []api.Entry
	for i := range many {
		l = append(l, api.Entry{Name: letter(2 * i), Value: []byte{'v', byte(i)}})
	}
	return l
}

// letter is a Name of a number below 256; greater numbers' Names are greater.
func letter(n int) []byte { return []byte{'n', byte(n)} }

func get(name string) api.Op    { return api.Op{Kind: api.OpGet, Name: []byte(name)} }
func del(name string) api.Op    { return api.Op{Kind: api.OpDelete, Name: []byte(name)} }
func put(name, a string) api.Op { return api.Op{Kind: api.OpPut, Name: []byte(name), A: []byte(a)} }
func cas(name, a, b string) api.Op {
	return api.Op{Kind: api.OpCas, Name: []byte(name), A: []byte(a), B: []byte(b)}
}
