package wal

import (
	"slices"
	"strings"
	"testing"

	"catenary/api"
	"catenary/disk"
)

func TestAdd(t *testing.T) { // P12.2: bytes written out
	d := disk.New(1000)
	l := opened(t, d)
	adds(t, l, "ab", api.OK)
	holds(t, d, "\x02ab", false)
	adds(t, l, "", api.OK)
	holds(t, d, "\x02ab\x00", false)
	adds(t, l, "\x02ab", api.OK)
	holds(t, d, "\x02ab\x00\x03\x02ab", false)
	adds(t, l, letters(128), api.OK)
	holds(t, d, "\x02ab\x00\x03\x02ab\x80\x01"+letters(128), false)
	opened(t, d, "ab", "", "\x02ab", letters(128))
}

func TestAddOfNothing(t *testing.T) { // P12.2: nil and empty are one
	for _, none := range [][]byte{nil, {}} {
		d := disk.New(1)
		l := opened(t, d)
		if e := l.Add(none); e != api.OK {
			t.Errorf("Add of an empty record: %v", e)
		}
		opened(t, d, "")
		// It takes a byte, which isn't there any more.
		if e := l.Add(none); e != api.ErrDiskFull {
			t.Errorf("Add of an empty record to a full disk: %v", e)
		}
		opened(t, d, "")
	}
}

func TestAddBehindRecords(t *testing.T) { // P12.2: each behind those that were there
	for _, ahead := range recordLists() {
		for _, more := range recordLists() {
			d := diskWith(t, spell(ahead...))
			l, want := opened(t, d, ahead...), slices.Clone(ahead)
			for _, record := range more {
				adds(t, l, record, api.OK)
				want = append(want, record)
				holds(t, d, spell(want...), false)
			}
			opened(t, d, want...)
		}
	}
}

func TestAddThatFitsJustSo(t *testing.T) { // P12.2: and by one byte not
	for _, ahead := range recordLists() {
		for _, record := range []string{"", "x", letters(127), letters(128), letters(16384)} {
			all := spell(append(slices.Clone(ahead), record)...)
			d := diskWith(t, spell(ahead...))
			l := opened(t, d, ahead...)
			for _, room := range []int{0, len(spell(ahead...)), len(all) - 1} {
				d.Room(room)
				adds(t, l, record, api.ErrDiskFull)
				holds(t, d, spell(ahead...), false)
				opened(t, d, ahead...)
			}
			d.Room(len(all))
			adds(t, l, record, api.OK)
			holds(t, d, all, false)
		}
	}
}

func TestAddBehindARefusedOne(t *testing.T) { // P12.2: a lesser one still fits
	d := disk.New(6)
	l := opened(t, d)
	adds(t, l, "ab", api.OK)
	adds(t, l, "cde", api.ErrDiskFull)
	adds(t, l, letters(1000), api.ErrDiskFull)
	adds(t, l, "cd", api.OK)
	adds(t, l, "", api.ErrDiskFull)
	opened(t, d, "ab", "cd")
}

func TestAddOfGreatRecords(t *testing.T) { // P12.2: as great as a disk, and greater
	d := disk.New(mostRoom)
	l := opened(t, d)
	for _, size := range []int{mostRoom - 3, mostRoom, mostRoom + 1, 3 * mostRoom} {
		adds(t, l, letters(size), api.ErrDiskFull)
		compacts(t, l, api.ErrDiskFull, letters(size))
		holds(t, d, "", false)
	}
	adds(t, l, letters(mostRoom-4), api.OK)
	opened(t, d, letters(mostRoom-4))
	compacts(t, l, api.OK, letters(mostRoom-5), "")
	opened(t, d, letters(mostRoom-5), "")
}

func TestCompact(t *testing.T) { // P12.2: bytes written out
	d := disk.New(1000)
	l := opened(t, d)
	adds(t, l, "x", api.OK)
	compacts(t, l, api.OK, "ab", "", "c")
	holds(t, d, "\x02ab\x00\x01c", false)
	compacts(t, l, api.OK, letters(128))
	holds(t, d, "\x80\x01"+letters(128), false)
	adds(t, l, "y", api.OK)
	opened(t, d, letters(128), "y")
}

func TestCompactToRecords(t *testing.T) { // P12.2: to less, to more, to none and to the same
	for _, before := range recordLists() {
		for _, records := range recordLists() {
			d := diskWith(t, spell(before...))
			l := opened(t, d, before...)
			for range 2 {
				compacts(t, l, api.OK, records...)
				opened(t, d, records...)
			}
			adds(t, l, "behind", api.OK)
			opened(t, d, append(slices.Clone(records), "behind")...)
		}
	}
}

func TestCompactToNothing(t *testing.T) { // P12.2: no records at all, told in three ways, aren't one empty record
	for how, compact := range map[string]func(l *Log) api.Errno{
		"no arguments":  func(l *Log) api.Errno { return l.Compact() },
		"no list":       func(l *Log) api.Errno { return l.Compact([][]byte(nil)...) },
		"an empty list": func(l *Log) api.Errno { return l.Compact([][]byte{}...) },
	} {
		for _, room := range []int{0, 100} {
			d := diskWith(t, spell("ab", "c"))
			l := opened(t, d, "ab", "c")
			d.Room(room)
			if e := compact(l); e != api.OK {
				t.Errorf("Compact with %s: %v", how, e)
			}
			opened(t, d)
		}
	}
	d := diskWith(t, spell("ab"))
	l := opened(t, d, "ab")
	if e := l.Compact(nil, []byte{}); e != api.OK {
		t.Errorf("Compact to two empty records: %v", e)
	}
	opened(t, d, "", "")
}

func TestCompactThatFitsJustSo(t *testing.T) { // P12.2: what is there is no hindrance
	for _, before := range recordLists() {
		for _, records := range recordLists()[1:] {
			size := len(spell(records...))
			d := diskWith(t, spell(before...))
			l := opened(t, d, before...)
			d.Room(size - 1)
			compacts(t, l, api.ErrDiskFull, records...)
			opened(t, d, before...)
			d.Room(size)
			compacts(t, l, api.OK, records...)
			opened(t, d, records...)
			adds(t, l, "", api.ErrDiskFull)
		}
	}
}

func TestWritesToADeadDisk(t *testing.T) { // P12.2: what fits and what doesn't
	d := diskWith(t, spell("ab"))
	l := opened(t, d, "ab")
	d.Break(0, 1)
	adds(t, l, "cd", api.ErrDead)
	for range 3 {
		for _, record := range []string{"", "x", letters(mostRoom)} {
			adds(t, l, record, api.ErrDead)
			compacts(t, l, api.ErrDead, record)
			compacts(t, l, api.ErrDead, record, record)
		}
		compacts(t, l, api.ErrDead)
		holds(t, d, "\x02ab\x02", true)
	}
	d.Mend()
	opened(t, d, "ab")
}

func TestFullComesAheadOfTheBreak(t *testing.T) { // P12.2: what is refused breaks nothing
	d := diskWith(t, spell("ab"))
	l := opened(t, d, "ab")
	d.Room(5)
	d.Break(0, 2)
	for range 3 {
		adds(t, l, "cd", api.ErrDiskFull)
		compacts(t, l, api.ErrDiskFull, "abcde")
		opened(t, d, "ab")
	}
	adds(t, l, "c", api.ErrDead)
	d.Mend()
	opened(t, d, "ab", "c")
}

func TestEachWriteIsOne(t *testing.T) { // P12.2: an Add is one write to the disk, a Compact too, of however many records
	for many := range 8 {
		d := disk.New(1000)
		l, want := opened(t, d), []string(nil)
		d.Break(many, 0)
		for i := range many {
			if i%3 == 2 {
				compacts(t, l, api.OK, "x", "y", "z")
				want = []string{"x", "y", "z"}
			} else {
				adds(t, l, "a", api.OK)
				want = append(want, "a")
			}
		}
		adds(t, l, "late", api.ErrDead)
		d.Mend()
		opened(t, d, want...)
	}
}

func TestManyAdds(t *testing.T) { // P12.2
	d := disk.New(mostRoom)
	l, want := opened(t, d), []string(nil)
	for i := range 3000 {
		want = append(want, strings.Repeat("r", i%200))
		if e := l.Add([]byte(want[i])); e != api.OK {
			t.Fatalf("Add %d: %v", i, e)
		}
	}
	opened(t, d, want...)
}

func TestLogEmbedsItsDisk(t *testing.T) { // the section Ways: the disk's methods are the log's too
	d := disk.New(4)
	l := opened(t, d)
	adds(t, l, "x", api.OK)
	if string(l.Bytes()) != "\x01x" || l.Dead() {
		t.Errorf("the log's disk has %q, dead: %v", l.Bytes(), l.Dead())
	}
	l.Room(7)
	l.Break(0, 3)
	adds(t, l, "cdef", api.ErrDead)
	if string(l.Bytes()) != "\x01x\x04cd" || !l.Dead() {
		t.Errorf("the log's disk has %q, dead: %v", l.Bytes(), l.Dead())
	}
	holds(t, d, "\x01x\x04cd", true)
	l.Mend()
	opened(t, d, "x")
}

func TestLogsAreApart(t *testing.T) { // P2: what is done to one log doesn't touch another
	c, d := disk.New(100), disk.New(4)
	one, two := opened(t, c), opened(t, d)
	adds(t, one, "ab", api.OK)
	holds(t, d, "", false)
	adds(t, two, "c", api.OK)
	c.Break(0, 1)
	adds(t, two, "d", api.OK)
	adds(t, one, "ef", api.ErrDead)
	adds(t, two, "", api.ErrDiskFull)
	compacts(t, two, api.OK, "xyz")
	c.Mend()
	opened(t, c, "ab")
	opened(t, d, "xyz")
	opened(t, disk.New(100))
}
