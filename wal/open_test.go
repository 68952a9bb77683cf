package wal

import (
	"slices"
	"testing"

	"catenary/api"
	"catenary/disk"
)

func TestOpenOfADeadDisk(t *testing.T) { // P12.2: whatever is on it
	for _, tail := range append(tails(), "") {
		for _, ahead := range recordLists() {
			d := diskWith(t, spell(ahead...))
			d.Break(0, len(tail))
			d.Append([]byte(tail))
			for range 3 {
				refused(t, d, api.ErrDead)
				holds(t, d, spell(ahead...)+tail, true)
			}
			d.Mend()
			opened(t, d, ahead...)
		}
	}
}

func TestOpenOfADeadAndFullDisk(t *testing.T) { // P12.2: dead comes first
	d := diskWith(t, spell("x"))
	d.Break(0, 1)
	d.Append([]byte("\x05ab"))
	d.Room(0)
	refused(t, d, api.ErrDead)
	d.Mend()
	refused(t, d, api.ErrDiskFull)
	d.Room(2)
	opened(t, d, "x")
}

func TestOpenOfAnEmptyDisk(t *testing.T) { // P12.2: of one without any room too
	for _, room := range []int{0, 1, 1000, mostRoom} {
		opened(t, disk.New(room))
	}
}

func TestOpenOfRecords(t *testing.T) { // P12.2: however often
	for _, records := range recordLists() {
		d := diskWith(t, spell(records...))
		for range 3 {
			opened(t, d, records...)
		}
	}
}

func TestOpenOfATornEnd(t *testing.T) { // P12.2: behind it the disk has just the records' bytes
	for _, tail := range tails() {
		for _, ahead := range recordLists() {
			d := diskWith(t, spell(ahead...)+tail)
			l := opened(t, d, ahead...)
			adds(t, l, "new", api.OK)
			opened(t, d, append(slices.Clone(ahead), "new")...)
		}
	}
}

func TestOpenOfBytesThatAreNoRecords(t *testing.T) { // P12.2: whole records behind them are gone too
	for _, tail := range noLengths() {
		d := diskWith(t, spell("x")+tail+spell("y", "z"))
		opened(t, d, "x")
		opened(t, d, "x")
	}
}

func TestOpenOfAGreatDisk(t *testing.T) { // P12.2: as great as there may be, with one record and with many
	great := letters(mostRoom - 4)
	d := diskWith(t, spell(great))
	if len(d.Bytes()) != mostRoom {
		t.Fatalf("a disk with %d bytes", len(d.Bytes()))
	}
	opened(t, d, great)
	many := slices.Repeat([]string{letters(255), ""}, 16000)
	d = diskWith(t, spell(many...)+"\xff")
	opened(t, d, many...)
}

func TestOpenWritesOnlyOverATornEnd(t *testing.T) { // P12.2: a disk of whole records isn't Replaced
	for _, records := range recordLists() {
		d := diskWith(t, spell(records...))
		d.Break(0, 0)
		l := opened(t, d, records...)
		adds(t, l, "x", api.ErrDead)
	}
	// With less room than there is on it none could be written.
	for _, records := range recordLists()[1:] {
		d := diskWith(t, spell(records...))
		d.Room(len(spell(records...)) - 1)
		opened(t, d, records...)
	}
}

func TestOpenWritesOnce(t *testing.T) { // P12.2: a torn end costs one write
	for _, tail := range tails() {
		d := diskWith(t, spell("x", "yz")+tail)
		d.Break(1, 0)
		l := opened(t, d, "x", "yz")
		adds(t, l, "new", api.ErrDead)
		d.Mend()
		opened(t, d, "x", "yz")
	}
}

func TestOpenWithoutRoom(t *testing.T) { // P12.2: the records alone don't fit
	for _, tail := range tails() {
		for _, records := range recordLists()[1:] {
			size := len(spell(records...))
			d := diskWith(t, spell(records...)+tail)
			for _, room := range []int{0, size / 2, size - 1} {
				d.Room(room)
				refused(t, d, api.ErrDiskFull)
				holds(t, d, spell(records...)+tail, false)
			}
			// The torn end needs no room.
			d.Room(size)
			opened(t, d, records...)
		}
		d := diskWith(t, tail)
		d.Room(0)
		opened(t, d)
	}
}

func TestOpenThatBreaksTheDisk(t *testing.T) { // P12.2: the error and no log, and all stays as it was
	for _, tail := range tails() {
		for _, tear := range []int{-1, 0, 1, 3, 9, 100000} {
			d := diskWith(t, spell("ab", "", "c")+tail)
			d.Break(0, tear)
			refused(t, d, api.ErrDead)
			holds(t, d, spell("ab", "", "c")+tail, true)
			refused(t, d, api.ErrDead)
			d.Mend()
			opened(t, d, "ab", "", "c")
		}
	}
}

func TestOpenWithoutRoomBreaksNothing(t *testing.T) { // P12.2: what the disk refuses isn't a write
	d := diskWith(t, spell("ab")+"\x05")
	d.Break(0, 1)
	d.Room(2)
	for range 3 {
		refused(t, d, api.ErrDiskFull)
		holds(t, d, spell("ab")+"\x05", false)
	}
	d.Room(3)
	refused(t, d, api.ErrDead)
	d.Mend()
	opened(t, d, "ab")
}
