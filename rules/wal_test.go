package rules

import (
	"reflect"
	"slices"
	"strconv"
	"testing"

	"catenary/api"
	"catenary/disk"
	"catenary/wal"
)

// logBytes are those of records: none, whole ones, with a torn one behind, with other bytes behind, and no records at all.
func logBytes() [][]byte {
	whole := []byte("\x02ab\x00\x01c\x05there\x00")
	out := [][]byte{nil, {}, []byte("\x00"), whole, []byte("\xff\xff"), []byte("\x80\x00"), []byte("\x7fno text")}
	for _, tail := range []string{"\x05", "\x05ab", "\x80", "\x80\x00\x01x", "\xff\xff\xff\xff\x0f"} {
		out = append(out, append(slices.Clone(whole), tail...))
	}
	return out
}

// logRecords are lists of records.
func logRecords() [][][]byte {
	ab, long := []byte("ab"), make([]byte, 130)
	return [][][]byte{nil, {}, {nil}, {{}, nil}, {ab}, {ab, {}, []byte("c")}, {long, ab}, {ab, long, long}}
}

// loggedDisks are such ways to make a disk with records on it that each write to a log takes all ways: whole, full, to break soon and later.
func loggedDisks() map[string]func() *disk.Disk {
	start := func(room int) *disk.Disk {
		d := disk.New(100)
		d.Append([]byte("\x02ab\x00\x01c"))
		d.Room(room)
		return d
	}
	broken := func(writes, tear int) *disk.Disk {
		d := start(1000)
		d.Break(writes, tear)
		return d
	}
	return map[string]func() *disk.Disk{
		"a new disk":    func() *disk.Disk { return disk.New(1000) },
		"a whole disk":  func() *disk.Disk { return start(1000) },
		"a small disk":  func() *disk.Disk { return start(9) },
		"a full disk":   func() *disk.Disk { return start(2) },
		"one to break":  func() *disk.Disk { return broken(0, 2) },
		"one with all":  func() *disk.Disk { return broken(0, 999) },
		"one for later": func() *disk.Disk { return broken(1, 2) },
	}
}

func TestScans(t *testing.T) {
	for i, b := range logBytes() {
		keepsRules(t, call{"Scan of bytes " + strconv.Itoa(i), wal.Scan, []any{b}})
	}
}

// openedBytes opens a disk of some bytes: the records, the error, and what is on the disk then.
func openedBytes(b []byte, prepare func(d *disk.Disk)) ([][]byte, api.Errno, []byte) {
	d := disk.New(100)
	d.Append(b)
	prepare(d)
	_, records, e := wal.Open(d)
	return records, e, d.Bytes()
}

func TestOpens(t *testing.T) {
	for how, prepare := range map[string]func(d *disk.Disk){
		"a whole disk": func(d *disk.Disk) {},
		"a full disk":  func(d *disk.Disk) { d.Room(2) },
		"one to break": func(d *disk.Disk) { d.Break(0, 2) },
		"a dead disk":  func(d *disk.Disk) { d.Break(0, 0); d.Append(nil) },
	} {
		for i, b := range logBytes() {
			keepsRules(t, call{"Open of " + how + " with bytes " + strconv.Itoa(i), func(b []byte) ([][]byte, api.Errno, []byte) {
				return openedBytes(b, prepare)
			}, []any{b}})
		}
	}
}

func TestOpensShareNothing(t *testing.T) { // with the disk: records may be written over, while the log is still there
	for i, b := range logBytes() {
		d := disk.New(100)
		d.Append(b)
		l, records, e := wal.Open(d)
		if e != api.OK {
			t.Fatalf("Open of bytes %d: %v", i, e)
		}
		was := d.Bytes()
		_, again, _ := wal.Open(d)
		if !apart(listsWithRoom(reflect.ValueOf(records), reflect.ValueOf(again))) {
			t.Errorf("bytes %d: records of two answers share memory", i)
		}
		writeOver([]reflect.Value{reflect.ValueOf(records)})
		if string(d.Bytes()) != string(was) {
			t.Errorf("bytes %d: %q became %q behind a write into the records", i, was, d.Bytes())
		}
		// An answer doesn't change with the log.
		l.Add([]byte("more"))
		l.Compact([]byte("XYZXYZ"), []byte("XYZXYZXYZXYZ"))
		l.Add([]byte("more"))
		if string(packed(again)) != string(was) {
			t.Errorf("bytes %d: the records became %q", i, again)
		}
	}
}

// packed: what records of less than 128 bytes take on a disk.
func packed(records [][]byte) []byte {
	var out []byte
	for _, r := range records {
		out = append(append(out, byte(len(r))), r...)
	}
	return out
}

// logOn: the log on a disk of whole records.
func logOn(t *testing.T, d *disk.Disk) *wal.Log {
	t.Helper()
	l, _, e := wal.Open(d)
	if e != api.OK {
		t.Fatalf("Open: %v", e)
	}
	return l
}

func TestLogs(t *testing.T) {
	for which, start := range loggedDisks() {
		for i, records := range logRecords() {
			name := " of list " + strconv.Itoa(i) + " to " + which
			keepsRules(t, call{"Add" + name, func(records ...[]byte) (api.Errno, []byte, bool) {
				d := start()
				l, e := logOn(t, d), api.OK
				for _, r := range records {
					e = max(e, l.Add(r))
				}
				return e, d.Bytes(), d.Dead()
			}, []any{records}})
			keepsRules(t, call{"Compact" + name, func(records ...[]byte) (api.Errno, []byte, bool) {
				d := start()
				e := logOn(t, d).Compact(records...)
				return e, d.Bytes(), d.Dead()
			}, []any{records}})
		}
	}
}

func TestLogsKeepNothing(t *testing.T) { // what was written may be written over, while the log is still there
	for which, start := range loggedDisks() {
		for i, one := range logRecords() {
			for k, two := range logRecords() {
				d := start()
				l, c := logOn(t, d), call{args: []any{one, two}}
				args := c.values()
				l.Compact(args[0].Interface().([][]byte)...)
				for _, r := range args[1].Interface().([][]byte) {
					l.Add(r)
				}
				was := d.Bytes()
				writeOver(args)
				if got := d.Bytes(); string(got) != string(was) {
					t.Errorf("lists %d and %d to %s: %q became %q", i, k, which, was, got)
				}
			}
		}
	}
}

func TestLogsHangOnTheirDisks(t *testing.T) { // P2: whatever was read or written ahead elsewhere, or refused
	for i, b := range logBytes() {
		want, wantError, wantBytes := openedBytes(b, func(d *disk.Disk) {})
		for _, start := range loggedDisks() {
			l := logOn(t, start())
			for _, other := range logBytes() {
				wal.Scan(other)
				l.Add(other)
				l.Compact(other, other)
			}
			records, e, left := openedBytes(b, func(d *disk.Disk) {})
			if e != wantError || !same(reflect.ValueOf(records), reflect.ValueOf(want)) || string(left) != string(wantBytes) {
				t.Fatalf("bytes %d: %q, %v, %q; want %q, %v, %q", i, records, e, left, want, wantError, wantBytes)
			}
		}
	}
}
