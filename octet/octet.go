// Package octet is layer 1: see shared/doc/01-octet.md.
package octet

import "catenary/api"

const (
	// groupBits is how many bits of a number a byte carries.
	groupBits = 7
	// more is added to each byte of a number that another one follows.
	more = 1 << groupBits
	// mostGroups is how many groups MaxInt, a number of 31 bits, takes.
	mostGroups = 5
)

// Int: a number's bytes.
func Int(n int) ([]byte, api.Errno) {
	if n < 0 || n > api.MaxInt {
		return nil, api.ErrOctetRange
	}
	return appendInt(nil, n), api.OK
}

// GetInt: the number at a place.
func GetInt(b []byte, at int) (int, int, api.Errno) {
	if at < 0 || at > len(b) {
		return 0, 0, api.ErrOctet
	}
	groups := groupsAt(b, at)
	if groups == 0 {
		return 0, 0, api.ErrOctet
	}
	last := at + groups - 1
	// A highest group of 0 would be a second, longer way of writing the number.
	if groups > 1 && b[last] == 0 {
		return 0, 0, api.ErrOctet
	}
	n := joinGroups(b[at : last+1])
	if n > api.MaxInt {
		return 0, 0, api.ErrOctet
	}
	return int(n), last + 1, api.OK
}

// Bytes: a text with its length ahead.
func Bytes(p []byte) []byte {
	return appendText(nil, p)
}

// GetBytes: the text at a place.
func GetBytes(b []byte, at, most int) ([]byte, int, api.Errno) {
	size, start, e := GetInt(b, at)
	if e != api.OK {
		return nil, 0, e
	}
	// What is left is asked for, not where the text would end: that can't overflow.
	if size > most || size > len(b)-start {
		return nil, 0, api.ErrOctet
	}
	text := make([]byte, size)
	copy(text, b[start:])
	return text, start + size, api.OK
}

// Pack: some texts as one.
func Pack(parts ...[]byte) []byte {
	var out []byte
	for _, p := range parts {
		out = appendText(out, p)
	}
	return out
}

// Unpack: the texts that were packed.
func Unpack(b []byte) ([][]byte, api.Errno) {
	var parts [][]byte
	at := 0
	for at < len(b) {
		p, next, e := GetBytes(b, at, api.MaxInt)
		if e != api.OK {
			return nil, e
		}
		parts = append(parts, p)
		at = next
	}
	return parts, api.OK
}

// appendInt writes a number that is at least 0 behind out.
func appendInt(out []byte, n int) []byte {
	for n >= more {
		out = append(out, byte(n%more+more))
		n /= more
	}
	return append(out, byte(n))
}

// appendText writes a text, its length ahead, behind out.
func appendText(out, p []byte) []byte {
	return append(appendInt(out, len(p)), p...)
}

// groupsAt: how many groups the number at a place has; 0, if it is cut off or has too many.
func groupsAt(b []byte, at int) int {
	for i := range mostGroups {
		if at+i >= len(b) {
			return 0
		}
		if b[at+i] < more {
			return i + 1
		}
	}
	return 0
}

// joinGroups puts at most mostGroups groups together; 64 bits hold them all, above MaxInt too.
func joinGroups(groups []byte) int64 {
	n := int64(0)
	for i, g := range groups {
		n += int64(g%more) << (groupBits * i)
	}
	return n
}
