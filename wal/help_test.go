package wal

import (
	"encoding/binary"
	"slices"
	"testing"

	"catenary/api"
	"catenary/disk"
)

// mostRoom is MaxDisk, as DOC.md has it.
const mostRoom = 4194304

// spell: the bytes that records take, made without the layers below: the library writes a number in groups of seven bits too, the lowest first.
func spell(records ...string) string {
	var out []byte
	for _, r := range records {
		out = append(binary.AppendUvarint(out, uint64(len(r))), r...)
	}
	return string(out)
}

// letters: a text of some size that isn't all one byte.
func letters(size int) string {
	b := make([]byte, size)
	for i := range b {
		b[i] = byte('a' + i%23)
	}
	return string(b)
}

// asBytes: texts as records.
func asBytes(texts []string) [][]byte {
	var out [][]byte
	for _, s := range texts {
		out = append(out, []byte(s))
	}
	return out
}

// asTexts: records as texts.
func asTexts(records [][]byte) []string {
	var out []string
	for _, r := range records {
		out = append(out, string(r))
	}
	return out
}

// diskWith: a disk with a text on it, and with as much room as there may be.
func diskWith(t *testing.T, text string) *disk.Disk {
	t.Helper()
	d := disk.New(mostRoom)
	if e := d.Append([]byte(text)); e != api.OK {
		t.Fatalf("no disk with %.80q: %v", text, e)
	}
	return d
}

// opened: the log on a disk that holds just these records.
func opened(t *testing.T, d *disk.Disk, want ...string) *Log {
	t.Helper()
	l, records, e := Open(d)
	if e != api.OK || l == nil || !slices.Equal(asTexts(records), want) {
		t.Fatalf("Open: %.80q, %v, a log: %v; want %.80q", asTexts(records), e, l != nil, want)
	}
	holds(t, d, spell(want...), false)
	return l
}

// refused asks that Open answers an error alone.
func refused(t *testing.T, d *disk.Disk, want api.Errno) {
	t.Helper()
	if l, records, e := Open(d); e != want || l != nil || len(records) != 0 {
		t.Errorf("Open: %.80q, %v, a log: %v; want %v alone", asTexts(records), e, l != nil, want)
	}
}

// holds asks what is on a disk, and whether it is dead.
func holds(t *testing.T, d *disk.Disk, text string, dead bool) {
	t.Helper()
	if got := string(d.Bytes()); got != text || d.Dead() != dead {
		t.Errorf("on the disk is %.80q, dead: %v; want %.80q, %v", got, d.Dead(), text, dead)
	}
}

// adds asks what an Add answers.
func adds(t *testing.T, l *Log, record string, want api.Errno) {
	t.Helper()
	if e := l.Add([]byte(record)); e != want {
		t.Errorf("Add of %.80q: %v; want %v", record, e, want)
	}
}

// compacts asks what a Compact answers.
func compacts(t *testing.T, l *Log, want api.Errno, records ...string) {
	t.Helper()
	if e := l.Compact(asBytes(records)...); e != want {
		t.Errorf("Compact to %.80q: %v; want %v", records, e, want)
	}
}

// recordLists are lists of records: none, empty ones, at the edges of their lengths' bytes, ones that look like records of their own.
func recordLists() [][]string {
	return [][]string{
		nil,
		{""},
		{"", "", ""},
		{"x"},
		{"ab", "", "c"},
		{"", "ab", ""},
		{"\x00\xff", "\x80", "\x80\x00", "\xff\xff\xff\xff\x07"},
		{spell("x", "yz"), spell("", "")},
		{letters(127), letters(128), "x"},
		{letters(129), letters(300)},
		{letters(16383), letters(16384), letters(16385)},
	}
}

// noLengths are bytes that no record begins with, though none of them is cut off: numbers in another way than their own, and above MaxInt.
func noLengths() []string {
	return []string{
		"\x80\x00", "\x81\x00", "\xff\x00", "\x80\x80\x00", "\xff\xff\x00", "\x80\x80\x80\x00", "\x82\x80\x80\x80\x00",
		"\x80\x80\x80\x80\x08", "\xff\xff\xff\xff\x08", "\xff\xff\xff\xff\x0f", "\x81\x80\x80\x80\x10", "\xff\xff\xff\xff\x7f",
		"\x80\x80\x80\x80\x80\x01", "\x80\x80\x80\x80\x80\x00", "\xff\xff\xff\xff\xff\x01", "\xff\xff\xff\xff\xff\xff\xff\xff\xff\x01", "\xff\xff\xff\xff\xff\xff\xff\xff\xff\xff\xff\xff",
	}
}

// cutOff are bytes of which a record might still come: its length is cut off, or its text.
func cutOff() []string {
	return []string{
		"\x80", "\xff", "\x80\x80", "\xff\xff\xff", "\xff\xff\xff\xff",
		"\x01", "\x02", "\x02a", "\x03ab", "\x7f", "\xff\x01", "\x80\x01" + letters(127), "\xac\x02" + letters(299),
		"\xff\xff\xff\xff\x07", "\xff\xff\xff\xff\x07" + letters(500), "\x02\x00", "\x05\x01a\x01b",
	}
}

// tails are bytes that begin with no whole record.
func tails() []string { return append(noLengths(), cutOff()...) }
