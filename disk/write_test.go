package disk

import (
	"math"
	"testing"

	"catenary/api"
)

func TestErrors(t *testing.T) { // the section Errors
	if int(api.ErrDiskFull) != 113 || int(api.ErrDead) != 115 {
		t.Errorf("ErrDiskFull is %d, ErrDead %d", int(api.ErrDiskFull), int(api.ErrDead))
	}
	for what, write := range writes() {
		d := New(1)
		if e := write(d, "ab"); int(e) != 113 {
			t.Errorf("%s without room: %v", what, e)
		}
		d.Break(0, 0)
		if e := write(d, "a"); int(e) != 115 {
			t.Errorf("%s that breaks the disk: %v", what, e)
		}
		if e := write(d, "a"); int(e) != 115 {
			t.Errorf("%s to a dead disk: %v", what, e)
		}
	}
}

func TestAppend(t *testing.T) { // P11.2
	d := New(100)
	appends(t, d, "ab", api.OK, "ab")
	appends(t, d, "", api.OK, "ab")
	appends(t, d, "c", api.OK, "abc")
	appends(t, d, "ab", api.OK, "abcab")
	appends(t, d, "\x00\xff", api.OK, "abcab\x00\xff")
}

func TestReplace(t *testing.T) { // P11.2: by more, by less, by nothing, by the same
	d := New(100)
	replaces(t, d, "ab", api.OK, "ab")
	replaces(t, d, "cdefg", api.OK, "cdefg")
	replaces(t, d, "h", api.OK, "h")
	replaces(t, d, "h", api.OK, "h")
	appends(t, d, "i", api.OK, "hi")
	replaces(t, d, "", api.OK, "")
	replaces(t, d, "", api.OK, "")
	appends(t, d, "j", api.OK, "j")
}

func TestNoBytes(t *testing.T) { // P11.2: nil and empty are one
	for _, none := range [][]byte{nil, {}} {
		for _, room := range []int{0, 5} {
			d := New(room)
			if e := d.Append(none); e != api.OK {
				t.Errorf("Append of nothing: %v", e)
			}
			if e := d.Replace(none); e != api.OK {
				t.Errorf("Replace by nothing: %v", e)
			}
			holds(t, d, "", false)
		}
		d := written("abc")
		d.Append(none)
		holds(t, d, "abc", false)
		d.Replace(none)
		holds(t, d, "", false)
	}
}

func TestFitsJustSo(t *testing.T) { // P11.2: and by one byte not
	for room := range 12 {
		text := string(letters(room + 1))
		for there := range room + 1 {
			start := func() *Disk {
				d := New(room)
				d.Append([]byte(text[:there]))
				return d
			}
			appends(t, start(), text[there:], api.ErrDiskFull, text[:there])
			appends(t, start(), text[there:room], api.OK, text[:room])
			// What is there is no hindrance to a Replace.
			replaces(t, start(), text, api.ErrDiskFull, text[:there])
			replaces(t, start(), text[:room], api.OK, text[:room])
		}
	}
}

func TestFullIsAllOrNothing(t *testing.T) { // P11.2: a refused write changes nothing
	d := New(5)
	appends(t, d, "abc", api.OK, "abc")
	for range 3 {
		appends(t, d, "def", api.ErrDiskFull, "abc")
		appends(t, d, string(letters(1000)), api.ErrDiskFull, "abc")
		replaces(t, d, "uvwxyz", api.ErrDiskFull, "abc")
	}
	appends(t, d, "de", api.OK, "abcde")
	replaces(t, d, "vwxyz", api.OK, "vwxyz")
}

func TestDeadRefuses(t *testing.T) { // P11.2: what fits and what doesn't, and no bytes at all
	d := New(4)
	d.Append([]byte("ab"))
	d.Break(0, 1)
	appends(t, d, "cd", api.ErrDead, "abc")
	for range 3 {
		for _, text := range []string{"", "d", "de", "def", string(letters(mostRoom + 1))} {
			appends(t, d, text, api.ErrDead, "abc")
			replaces(t, d, text, api.ErrDead, "abc")
		}
	}
}

func TestDeadAndFull(t *testing.T) { // P11.2: dead comes first
	d := New(3)
	d.Break(0, 9)
	appends(t, d, "abc", api.ErrDead, "abc")
	appends(t, d, "d", api.ErrDead, "abc")
	replaces(t, d, "abcd", api.ErrDead, "abc")
	d.Room(0)
	appends(t, d, "", api.ErrDead, "abc")
	replaces(t, d, "d", api.ErrDead, "abc")
	d.Mend()
	appends(t, d, "", api.ErrDiskFull, "abc")
	replaces(t, d, "d", api.ErrDiskFull, "abc")
}

func TestFullComesAheadOfTheBreak(t *testing.T) { // P11.2: what is refused breaks nothing, however much would be torn off it
	for _, tear := range []int{math.MinInt, -1, 0, 1, 2, 3, 9, math.MaxInt} {
		for what, write := range writes() {
			d := New(4)
			d.Append([]byte("abc"))
			d.Break(0, tear)
			for range 3 {
				if e := write(d, "defgh"); e != api.ErrDiskFull {
					t.Errorf("%s that doesn't fit, on a disk that is to break: %v", what, e)
				}
				holds(t, d, "abc", false)
			}
			appends(t, d, "", api.ErrDead, "abc")
		}
	}
	// What the broken write would leave fits; the whole wouldn't.
	d := New(4)
	d.Append([]byte("abc"))
	d.Break(0, 1)
	appends(t, d, "de", api.ErrDiskFull, "abc")
	appends(t, d, "d", api.ErrDead, "abcd")
}

func TestManyWrites(t *testing.T) { // P11.2: a disk that isn't to break doesn't
	d, want := New(mostRoom), ""
	for i := range 2000 {
		text := string(letters(i % 7))
		want += text
		if e := d.Append([]byte(text)); e != api.OK {
			t.Fatalf("Append %d: %v", i, e)
		}
	}
	holds(t, d, want, false)
	for i := range 2000 {
		if e := d.Replace(letters(i % 7)); e != api.OK {
			t.Fatalf("Replace %d: %v", i, e)
		}
		holds(t, d, string(letters(i%7)), false)
	}
}

func TestDisksAreApart(t *testing.T) { // P2: what is done to one disk doesn't touch another
	one, two := New(10), New(4)
	appends(t, one, "ab", api.OK, "ab")
	holds(t, two, "", false)
	one.Break(0, 1)
	appends(t, two, "cd", api.OK, "cd")
	appends(t, one, "ef", api.ErrDead, "abe")
	replaces(t, two, "gh", api.OK, "gh")
	two.Mend()
	holds(t, one, "abe", true)
	two.Room(1)
	one.Mend()
	appends(t, one, "ijk", api.OK, "abeijk")
	appends(t, two, "", api.ErrDiskFull, "gh")
	holds(t, New(10), "", false)
}
