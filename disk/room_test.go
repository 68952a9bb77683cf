package disk

import (
	"bytes"
	"testing"

	"catenary/api"
)

func TestNewIsEmpty(t *testing.T) { // P11.1
	for _, room := range append(append(belowZero(), aboveMost()...), 0, 1, 5, mostRoom) {
		d := New(room)
		if d == nil {
			t.Fatalf("New(%d) is no disk", room)
		}
		holds(t, d, "", false)
	}
}

func TestNewRoom(t *testing.T) { // P11.1
	for _, room := range []int{0, 1, 2, 5, 255, 256, 257, 65535, 65536, mostRoom - 1, mostRoom} {
		hasRoom(t, New(room), room)
	}
	for _, room := range belowZero() {
		hasRoom(t, New(room), 0)
	}
	for _, room := range aboveMost() {
		hasRoom(t, New(room), mostRoom)
	}
}

func TestRoom(t *testing.T) { // P11.1: more than there was, and less, and none at all
	for _, before := range []int{0, 1, 5, mostRoom} {
		for _, room := range []int{0, 1, 2, 5, 256, 65536, mostRoom - 1, mostRoom} {
			d := New(before)
			d.Room(room)
			hasRoom(t, d, room)
		}
	}
	for _, room := range belowZero() {
		d := New(5)
		d.Room(room)
		hasRoom(t, d, 0)
	}
	for _, room := range aboveMost() {
		d := New(5)
		d.Room(room)
		hasRoom(t, d, mostRoom)
	}
}

func TestRoomAgain(t *testing.T) { // P11.1: the last one holds, in the place of those ahead of it
	d := New(3)
	for _, room := range []int{9, 4, 0, 7, -1, 2} {
		d.Room(room)
	}
	hasRoom(t, d, 2)
}

func TestLessRoomThanIsThere(t *testing.T) { // P11.1, P11.2: it stays
	for room := range 6 {
		d := written("abcdef")
		d.Room(room)
		holds(t, d, "abcdef", false)
		appends(t, d, "g", api.ErrDiskFull, "abcdef")
		// With no byte more there are still more than there is room for.
		appends(t, d, "", api.ErrDiskFull, "abcdef")
		replaces(t, d, string(letters(room+1)), api.ErrDiskFull, "abcdef")
		replaces(t, d, string(letters(room)), api.OK, string(letters(room)))
	}
	d := written("abcdef")
	d.Room(-1)
	holds(t, d, "abcdef", false)
	replaces(t, d, "x", api.ErrDiskFull, "abcdef")
	replaces(t, d, "", api.OK, "")
	appends(t, d, "x", api.ErrDiskFull, "")
	d.Room(1)
	appends(t, d, "x", api.OK, "x")
}

func TestRoomAsMuchAsIsThere(t *testing.T) { // P11.1
	d := written("abcdef")
	d.Room(6)
	appends(t, d, "", api.OK, "abcdef")
	appends(t, d, "g", api.ErrDiskFull, "abcdef")
	d.Room(7)
	appends(t, d, "g", api.OK, "abcdefg")
}

func TestRoomOfADeadDisk(t *testing.T) { // P11.1, P11.3: it holds behind Mend, and mends nothing
	d := written("ab")
	d.Break(0, 1)
	appends(t, d, "cd", api.ErrDead, "abc")
	d.Room(4)
	appends(t, d, "e", api.ErrDead, "abc")
	d.Mend()
	appends(t, d, "ef", api.ErrDiskFull, "abc")
	appends(t, d, "e", api.OK, "abce")
}

func TestRoomKeepsTheBreak(t *testing.T) { // P11.1, P11.3: a disk with other room breaks as told
	d := New(2)
	d.Break(1, 1)
	d.Room(10)
	appends(t, d, "abc", api.OK, "abc")
	d.Room(20)
	appends(t, d, "def", api.ErrDead, "abcd")
}

func TestBytes(t *testing.T) { // P11.1: any bytes, each time the same
	all := make([]byte, 256)
	for i := range all {
		all[i] = byte(i)
	}
	d := New(1000)
	if e := d.Append(all); e != api.OK {
		t.Fatal(e)
	}
	if e := d.Append(all[:3]); e != api.OK {
		t.Fatal(e)
	}
	for range 3 {
		if got := d.Bytes(); !bytes.Equal(got, append(bytes.Clone(all), 0, 1, 2)) {
			t.Errorf("on the disk is %v", got)
		}
	}
}

func TestBytesOfTheGreatestDisk(t *testing.T) { // P11.1, P11.2: in many writes
	text := letters(mostRoom)
	d := New(mostRoom)
	for at := 0; at < mostRoom; at += 65536 {
		if e := d.Append(text[at : at+65536]); e != api.OK {
			t.Fatalf("Append at %d: %v", at, e)
		}
	}
	appends(t, d, "x", api.ErrDiskFull, string(text))
	replaces(t, d, "x", api.OK, "x")
}
