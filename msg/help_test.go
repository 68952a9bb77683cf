package msg

import (
	"bytes"
	"encoding/binary"
	"reflect"
	"slices"
	"strconv"
	"strings"
	"testing"

	"catenary/api"
)

// kinds are the numbers of the chapter's table.
var kinds = []int{1, 2, 3, 4, 5, 6, 7, 8, 9, 10, 11, 12, 13, 20, 21, 22, 23, 24, 25}

// has is the chapter's table: the fields that each kind has.
var has = map[int]string{
	1:  "Req",
	2:  "Ballot Slot Req Votes",
	3:  "Ballot Slot Req Cert Votes",
	4:  "Ballot Slot Req Votes",
	5:  "From To Index Data Sig",
	6:  "Ballot From To Sig",
	7:  "Ballot From To Sig Cert",
	8:  "Reports",
	9:  "Ballot Sig Order Reports",
	10: "Slot Data Votes",
	11: "Slot From",
	12: "Slot From Index Count Data Sig",
	13: "Ballot Slot From Index Req Other Data Sig",
	20: "Ballot",
	21: "Ballot Slot Order Picks",
	22: "Ballot Slot Req",
	23: "Ballot Slot Req Cert",
	24: "Ballot Slot Req Votes",
	25: "Slot Data Cert",
}

// fieldNames are the fields that some kind has, in the order in which they are written.
var fieldNames = strings.Fields("Ballot Slot From To Index Count Req Other Data Sig Cert Votes Order Picks Reports")

// partNames are the fields of what stands in a message, in the order in which they are written.
var partNames = map[reflect.Type]string{
	reflect.TypeFor[api.Ballot](): "View Turn",
	reflect.TypeFor[api.Req]():    "Client Stamp Op Sig",
	reflect.TypeFor[api.Vote]():   "Signer Sig",
	reflect.TypeFor[api.Report](): "Ballot Replica Low Digest Stable Preps Sig",
	reflect.TypeFor[api.Prep]():   "Slot Ballot Req Cert",
}

var textType = reflect.TypeFor[[]byte]()

// fieldsHad are the names of the fields of a kind, in the order in which they are written.
func fieldsHad(kind int) []string {
	had := strings.Fields(has[kind])
	return slices.DeleteFunc(slices.Clone(fieldNames), func(name string) bool { return !slices.Contains(had, name) })
}

// spelling is a message's bytes, made without the package, and where numbers (lengths too) stand in them.
type spelling struct {
	b       []byte
	numbers []int
}

func (s *spelling) number(n int) {
	s.numbers = append(s.numbers, len(s.b))
	s.b = binary.AppendUvarint(s.b, uint64(n))
}

func (s *spelling) value(v reflect.Value) {
	switch {
	case v.Kind() == reflect.Int:
		s.number(int(v.Int()))
	case v.Type() == textType:
		s.number(v.Len())
		s.b = append(s.b, v.Bytes()...)
	case v.Kind() == reflect.Slice:
		s.number(v.Len())
		for i := range v.Len() {
			s.value(v.Index(i))
		}
	default:
		for _, name := range strings.Fields(partNames[v.Type()]) {
			s.value(v.FieldByName(name))
		}
	}
}

// spell writes a message, whether it may be written or not.
func spell(m api.Msg) *spelling {
	s := &spelling{}
	s.number(m.Kind)
	for _, name := range fieldsHad(m.Kind) {
		s.value(reflect.ValueOf(m).FieldByName(name))
	}
	return s
}

// walk visits each number, each text and each list, and then what stands in the list. A visit may change what it is handed: behind it that is as it was.
func walk(v reflect.Value, path string, visit func(path string, v reflect.Value)) {
	if v.Kind() == reflect.Struct {
		for i := range v.NumField() {
			walk(v.Field(i), path+"."+v.Type().Field(i).Name, visit)
		}
		return
	}
	kept := reflect.New(v.Type()).Elem()
	kept.Set(v)
	visit(path, v)
	v.Set(kept)
	if v.Kind() == reflect.Slice && v.Type() != textType {
		for i := range v.Len() {
			walk(v.Index(i), path+"["+strconv.Itoa(i)+"]", visit)
		}
	}
}

// walkHad walks through the fields that the message's kind has.
func walkHad(m *api.Msg, visit func(path string, v reflect.Value)) {
	for _, name := range fieldsHad(m.Kind) {
		walk(reflect.ValueOf(m).Elem().FieldByName(name), strconv.Itoa(m.Kind)+"."+name, visit)
	}
}

// lists are all lists and texts of a message, those of fields that its kind hasn't too, each ahead of those within it.
func lists(m *api.Msg) []reflect.Value {
	var out []reflect.Value
	walk(reflect.ValueOf(m).Elem(), "", func(_ string, v reflect.Value) {
		if v.Kind() == reflect.Slice {
			out = append(out, v)
		}
	})
	return out
}

// spoil makes a number, a text or a list one that can't be written, and nothing shorter.
func spoil(v reflect.Value) {
	switch {
	case v.Kind() == reflect.Int:
		v.SetInt(-1)
	case v.Type() == textType:
		v.SetBytes(make([]byte, api.MaxData+1))
	default:
		v.Set(reflect.AppendSlice(v, reflect.MakeSlice(v.Type(), api.MaxList+1, api.MaxList+1)))
	}
}

// set gives each number and each text a value of its own, and each list two items.
func set(v reflect.Value, last *int) {
	*last++
	switch {
	case v.Kind() == reflect.Int:
		v.SetInt(int64(*last))
	case v.Type() == textType:
		v.SetBytes([]byte("text " + strconv.Itoa(*last)))
	case v.Kind() == reflect.Slice:
		v.Set(reflect.MakeSlice(v.Type(), 2, 2))
		for i := range v.Len() {
			set(v.Index(i), last)
		}
	default:
		for i := range v.NumField() {
			set(v.Field(i), last)
		}
	}
}

// full is a message of a kind with all its fields set.
func full(kind int) api.Msg {
	m := api.Msg{Kind: kind}
	last := 0
	for _, name := range fieldsHad(kind) {
		set(reflect.ValueOf(&m).Elem().FieldByName(name), &last)
	}
	return m
}

// same holds two values against each other; nil and empty are one.
func same(a, b reflect.Value) bool {
	switch a.Kind() {
	case reflect.Int, reflect.Uint8:
		return a.Equal(b)
	case reflect.Slice:
		if a.Len() != b.Len() {
			return false
		}
		for i := range a.Len() {
			if !same(a.Index(i), b.Index(i)) {
				return false
			}
		}
		return true
	}
	for i := range a.NumField() {
		if !same(a.Field(i), b.Field(i)) {
			return false
		}
	}
	return true
}

func sameMessage(a, b api.Msg) bool { return same(reflect.ValueOf(a), reflect.ValueOf(b)) }

// short is the beginning of bytes, for what a test tells.
func short(b []byte) []byte { return b[:min(len(b), 80)] }

// takes asks that the message is written as it is spelt, and read again.
func takes(t *testing.T, what string, m api.Msg) {
	t.Helper()
	want := spell(m).b
	if b, e := Encode(m); e != api.OK || !bytes.Equal(b, want) {
		t.Errorf("%s: Encode: %v, %v; want %v", what, short(b), e, short(want))
	}
	if got, e := Decode(want); e != api.OK || !sameMessage(got, m) {
		t.Errorf("%s: Decode of %v: %v; not what was written", what, short(want), e)
	}
}

// refuses asks that the message isn't written, for this error, with no bytes beside it.
func refuses(t *testing.T, what string, m api.Msg, want api.Errno) {
	t.Helper()
	if b, e := Encode(m); e != want || len(b) != 0 {
		t.Errorf("%s: Encode: %v, %v; want %v alone", what, short(b), e, want)
	}
}

// refusesBytes asks that no message is read out of the bytes, for this error, with the zero message beside it.
func refusesBytes(t *testing.T, what string, b []byte, want api.Errno) {
	t.Helper()
	if m, e := Decode(b); e != want || !reflect.DeepEqual(m, api.Msg{}) {
		t.Errorf("%s: Decode of %v: kind %d, %v; want %v alone", what, short(b), m.Kind, e, want)
	}
}

// refusesBoth asks that neither the message is written nor its spelling read.
func refusesBoth(t *testing.T, what string, m api.Msg) {
	t.Helper()
	refuses(t, what, m, api.ErrMsg)
	refusesBytes(t, what, spell(m).b, api.ErrMsg)
}
