package kv

import (
	"slices"

	"catenary/api"
	"catenary/octet"
)

// fieldErrors has an error for each of an operation's fields, in the order in which they are written: Kind, Name, A, B, Num.
type fieldErrors [5]api.Errno

// Write: an operation's bytes.
func Write(o api.Op) ([]byte, api.Errno) {
	if !writable(o) {
		return nil, api.ErrOp
	}
	// What is writable is within what Int takes.
	kind, _ := octet.Int(o.Kind)
	num, _ := octet.Int(o.Num)
	return slices.Concat(kind, octet.Bytes(o.Name), octet.Bytes(o.A), octet.Bytes(o.B), num), api.OK
}

// Read: the operation of bytes.
func Read(b []byte) (api.Op, api.Errno) {
	var o api.Op
	var e fieldErrors
	at := 0
	// Behind a field that isn't there the others are read from the front: that does no harm, since the operation is given up for that field.
	o.Kind, at, e[0] = octet.GetInt(b, at)
	o.Name, at, e[1] = octet.GetBytes(b, at, api.MaxName)
	o.A, at, e[2] = octet.GetBytes(b, at, api.MaxValue)
	o.B, at, e[3] = octet.GetBytes(b, at, api.MaxValue)
	o.Num, at, e[4] = octet.GetInt(b, at)
	if e != (fieldErrors{}) || at != len(b) || !writable(o) {
		return api.Op{}, api.ErrOp
	}
	return o, api.OK
}

// writable: has the operation bytes?
func writable(o api.Op) bool {
	return check(o) == fieldErrors{}
}

// check: each field's error.
func check(o api.Op) fieldErrors {
	mostA, mostB, leastNum, mostNum := limits(o.Kind)
	return fieldErrors{
		within(o.Kind, api.OpGet, api.OpHolder),
		within(len(o.Name), 1, api.MaxName),
		within(len(o.A), 0, mostA),
		within(len(o.B), 0, mostB),
		within(o.Num, leastNum, mostNum),
	}
}

// limits: how many bytes a kind's A and B may have, and from where to where its Num may be. What a kind has no use for is empty or 0.
func limits(kind int) (mostA, mostB, leastNum, mostNum int) {
	switch kind {
	case api.OpPut:
		mostA = api.MaxValue
	case api.OpCas:
		mostA, mostB = api.MaxValue, api.MaxValue
	case api.OpAcquire, api.OpRenew:
		leastNum, mostNum = 1, api.MaxTerm
	}
	return mostA, mostB, leastNum, mostNum
}

// within: ErrOp, if a number isn't from least to most.
func within(n, least, most int) api.Errno {
	if n < least || n > most {
		return api.ErrOp
	}
	return api.OK
}
