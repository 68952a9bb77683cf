package disk

import (
	"bytes"
	"math"
	"testing"

	"catenary/api"
)

// mostRoom is MaxDisk, as the chapter has it.
const mostRoom = 4194304

// written is a disk with room for 1000 bytes, and a text on it.
func written(text string) *Disk {
	d := New(1000)
	d.Append([]byte(text))
	return d
}

// letters are so many bytes that aren't all the same.
func letters(many int) []byte {
	b := make([]byte, many)
	for i := range b {
		b[i] = byte('a' + i%23)
	}
	return b
}

// write is one of the two ways to write.
type write func(d *Disk, text string) api.Errno

func appending(d *Disk, text string) api.Errno { return d.Append([]byte(text)) }

func replacing(d *Disk, text string) api.Errno { return d.Replace([]byte(text)) }

// writes are both ways, by their names.
func writes() map[string]write {
	return map[string]write{"Append": appending, "Replace": replacing}
}

// holds asks what is on a disk, and whether it is dead.
func holds(t *testing.T, d *Disk, text string, dead bool) {
	t.Helper()
	if got := d.Bytes(); !bytes.Equal(got, []byte(text)) || d.Dead() != dead {
		t.Errorf("on the disk is %.80q, dead: %v; want %.80q, %v", got, d.Dead(), text, dead)
	}
}

// appends asks what an Append answers, and what is on the disk then.
func appends(t *testing.T, d *Disk, text string, want api.Errno, then string) {
	t.Helper()
	if e := d.Append([]byte(text)); e != want {
		t.Errorf("Append of %.80q: %v; want %v", text, e, want)
	}
	holds(t, d, then, want == api.ErrDead)
}

// replaces asks what a Replace answers, and what is on the disk then.
func replaces(t *testing.T, d *Disk, text string, want api.Errno, then string) {
	t.Helper()
	if e := d.Replace([]byte(text)); e != want {
		t.Errorf("Replace by %.80q: %v; want %v", text, e, want)
	}
	holds(t, d, then, want == api.ErrDead)
}

// hasRoom asks that a disk has room for just so many bytes. Behind it the disk is full.
func hasRoom(t *testing.T, d *Disk, room int) {
	t.Helper()
	text := string(letters(room + 1))
	was := string(d.Bytes())
	replaces(t, d, text, api.ErrDiskFull, was)
	replaces(t, d, text[:room], api.OK, text[:room])
	appends(t, d, "x", api.ErrDiskFull, text[:room])
	appends(t, d, "", api.OK, text[:room])
}

// belowZero are numbers that a disk takes for 0.
func belowZero() []int {
	return []int{-1, -2, -1000, -mostRoom, math.MinInt32, -1<<32 + 5, math.MinInt + 1, math.MinInt}
}

// aboveMost are numbers of bytes that a disk has no room for; some would be less in 32 bits.
func aboveMost() []int {
	return []int{mostRoom + 1, mostRoom + 2, 2 * mostRoom, math.MaxInt32, 1 << 32, 1<<32 + 5, math.MaxInt - 1, math.MaxInt}
}
