package rules

import (
	"reflect"
	"strconv"
	"testing"

	"catenary/api"
	"catenary/disk"
)

// disks are such ways to make a disk with something on it that each write takes all ways: whole, full, to break soon and later, dead, mended.
func disks() map[string]func() *disk.Disk {
	start := func(room int) *disk.Disk {
		d := disk.New(12)
		d.Append([]byte("there"))
		d.Room(room)
		return d
	}
	broken := func(writes, tear int) *disk.Disk {
		d := start(100)
		d.Break(writes, tear)
		return d
	}
	return map[string]func() *disk.Disk{
		"a new disk":    func() *disk.Disk { return disk.New(100) },
		"a whole disk":  func() *disk.Disk { return start(100) },
		"a small disk":  func() *disk.Disk { return start(7) },
		"a full disk":   func() *disk.Disk { return start(2) },
		"one to break":  func() *disk.Disk { return broken(0, 2) },
		"one with all":  func() *disk.Disk { return broken(0, 99) },
		"one for later": func() *disk.Disk { return broken(1, 2) },
		"a dead disk": func() *disk.Disk {
			d := broken(0, 2)
			d.Append([]byte("more"))
			return d
		},
		"a mended disk": func() *disk.Disk {
			d := broken(0, 2)
			d.Append([]byte("more"))
			d.Mend()
			return d
		},
	}
}

// diskTexts are what is written.
func diskTexts() [][]byte {
	return [][]byte{nil, {}, []byte("a"), []byte("bc"), []byte("def"), []byte("value"), []byte("eight of")}
}

func TestDisks(t *testing.T) {
	for which, start := range disks() {
		for i, b := range diskTexts() {
			name := " of text " + strconv.Itoa(i) + " to " + which
			keepsRules(t, call{"Append" + name, func(b []byte) (api.Errno, []byte, bool) {
				d := start()
				e := d.Append(b)
				return e, d.Bytes(), d.Dead()
			}, []any{b}})
			keepsRules(t, call{"Replace" + name, func(b []byte) (api.Errno, []byte, bool) {
				d := start()
				e := d.Replace(b)
				return e, d.Bytes(), d.Dead()
			}, []any{b}})
			// One disk for all: nothing that was answered is what it keeps.
			d := start()
			d.Append(b)
			keepsRules(t, call{"Bytes behind Append" + name, d.Bytes, nil})
			d = start()
			d.Replace(b)
			keepsRules(t, call{"Bytes behind Replace" + name, d.Bytes, nil})
		}
	}
}

// diskWrites are pairs of writes to one disk.
func diskWrites() map[string]func(d *disk.Disk, one, two []byte) {
	return map[string]func(d *disk.Disk, one, two []byte){
		"Append, Append":   func(d *disk.Disk, one, two []byte) { d.Append(one); d.Append(two) },
		"Append, Replace":  func(d *disk.Disk, one, two []byte) { d.Append(one); d.Replace(two) },
		"Replace, Append":  func(d *disk.Disk, one, two []byte) { d.Replace(one); d.Append(two) },
		"Replace, Replace": func(d *disk.Disk, one, two []byte) { d.Replace(one); d.Replace(two) },
	}
}

func TestDisksKeepNothing(t *testing.T) { // what was written may be written over, while the disk is still there
	for which, start := range disks() {
		for how, write := range diskWrites() {
			for _, one := range diskTexts() {
				for _, two := range diskTexts() {
					d, c := start(), call{args: []any{one, two}}
					args, before := c.values(), c.values()
					write(d, args[0].Bytes(), args[1].Bytes())
					was := d.Bytes()
					if !sameAll(args, before) || wasWritten(args[0]) || wasWritten(args[1]) {
						t.Errorf("%s to %s changed what it was handed", how, which)
					}
					answer := reflect.ValueOf(d.Bytes())
					if !apart(append(args, answer, reflect.ValueOf(was))) {
						t.Errorf("%s to %s: lists share memory", how, which)
					}
					writeOver(append(args, answer))
					if got := d.Bytes(); string(got) != string(was) {
						t.Errorf("%s to %s: %q became %q", how, which, was, got)
					}
					if d.Append(nil); string(d.Bytes()) != string(was) {
						t.Errorf("%s to %s: %q became %q behind an Append of nothing", how, which, was, d.Bytes())
					}
				}
			}
		}
	}
}

func TestBytesStay(t *testing.T) { // an answer doesn't change with the disk
	for which, start := range disks() {
		d := start()
		was := d.Bytes()
		text := string(was)
		d.Mend()
		d.Room(100)
		d.Append([]byte("abc"))
		d.Replace([]byte("XYZXYZ"))
		d.Append([]byte("def"))
		if string(was) != text {
			t.Errorf("Bytes of %s, %q, became %q", which, text, was)
		}
	}
}
