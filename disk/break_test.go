package disk

import (
	"math"
	"strings"
	"testing"

	"catenary/api"
)

func TestExample(t *testing.T) { // P11.2, P11.3: the chapter's
	d := New(100)
	if e := d.Append([]byte("ab")); e != api.OK {
		t.Errorf("Append of ab: %v", e)
	}
	d.Break(0, 1)
	if e := d.Append([]byte("cd")); e != api.ErrDead {
		t.Errorf("Append of cd: %v", e)
	}
	d.Mend()
	holds(t, d, "abc", false)
}

func TestTear(t *testing.T) { // P11.2: below 0, none, a part, just as many as are written, more
	for text, left := range map[string]map[int]string{
		"":     {-1: "", 0: "", 1: "", 9: ""},
		"c":    {-1: "", 0: "", 1: "c", 2: "c"},
		"cdef": {-5: "", -4: "", -1: "", 0: "", 1: "c", 2: "cd", 3: "cde", 4: "cdef", 5: "cdef", 6: "cdef", 1000: "cdef"},
	} {
		for tear, part := range left {
			d := written("ab")
			d.Break(0, tear)
			appends(t, d, text, api.ErrDead, "ab"+part)
			d.Mend()
			appends(t, d, "x", api.OK, "ab"+part+"x")
		}
		for _, tear := range belowZero() {
			d := written("ab")
			d.Break(0, tear)
			appends(t, d, text, api.ErrDead, "ab")
		}
		for _, tear := range aboveMost() {
			d := written("ab")
			d.Break(0, tear)
			appends(t, d, text, api.ErrDead, "ab"+text)
		}
	}
}

func TestTearOfAFullDisk(t *testing.T) { // P11.2: all that was there is left, and as much as was torn off
	text := string(letters(mostRoom))
	for _, tear := range []int{0, 1, 1000, mostRoom / 2, mostRoom} {
		d := New(mostRoom)
		d.Append([]byte(text[:mostRoom/2]))
		d.Break(0, tear)
		appends(t, d, text[mostRoom/2:], api.ErrDead, text[:min(mostRoom, mostRoom/2+tear)])
	}
}

func TestBreaksAReplace(t *testing.T) { // P11.2: all stays as it was, whatever the tear
	for _, tear := range []int{math.MinInt, -1, 0, 1, 2, 3, 4, 5, 9, math.MaxInt} {
		for _, text := range []string{"", "x", "xy", "uvwxyz"} {
			d := written("abc")
			d.Break(0, tear)
			replaces(t, d, text, api.ErrDead, "abc")
			d.Mend()
			holds(t, d, "abc", false)
			replaces(t, d, text, api.OK, text)
		}
	}
	d := New(5)
	d.Break(0, 3)
	replaces(t, d, "abc", api.ErrDead, "")
}

func TestBreakWaits(t *testing.T) { // P11.3: behind so many more writes, of both kinds and of no bytes too
	for many := range 6 {
		d := written("a")
		d.Break(many, 1)
		want := "a"
		for i := range many {
			switch i % 3 {
			case 0:
				want += "b"
				appends(t, d, "b", api.OK, want)
			case 1:
				want = "c"
				replaces(t, d, "c", api.OK, want)
			default:
				appends(t, d, "", api.OK, want)
			}
		}
		appends(t, d, "de", api.ErrDead, want+"d")
	}
	for what, write := range writes() {
		d := New(0)
		d.Break(3, 0)
		for i, want := range []api.Errno{api.OK, api.OK, api.OK, api.ErrDead, api.ErrDead} {
			if e := write(d, ""); e != want {
				t.Errorf("%s %d of no bytes: %v; want %v", what, i, e, want)
			}
		}
	}
}

func TestBreakBelowZero(t *testing.T) { // P11.3: as with 0
	for _, writes := range belowZero() {
		d := written("ab")
		d.Break(writes, 1)
		holds(t, d, "ab", false)
		appends(t, d, "cd", api.ErrDead, "abc")
		d = written("ab")
		d.Break(writes, 1)
		replaces(t, d, "cd", api.ErrDead, "ab")
	}
}

func TestBreakFarAway(t *testing.T) { // P11.3
	for _, writes := range []int{2000, 1 << 32, math.MaxInt - 1, math.MaxInt} {
		d := New(10)
		d.Break(writes, 1)
		for i := range 2000 {
			if e := d.Replace([]byte("x")); e != api.OK {
				t.Fatalf("Break(%d, 1): write %d answers %v", writes, i, e)
			}
		}
		holds(t, d, "x", false)
	}
	d := New(3000)
	d.Break(1000, 2)
	for range 1000 {
		d.Append([]byte("x"))
	}
	want := strings.Repeat("x", 1000)
	holds(t, d, want, false)
	appends(t, d, "abc", api.ErrDead, want+"ab")
}

func TestBreakAlone(t *testing.T) { // P11.3: a disk that is to break isn't dead yet, and has what it had
	d := written("ab")
	for _, writes := range []int{-1, 0, 5} {
		d.Break(writes, 9)
		holds(t, d, "ab", false)
	}
}

func TestRefusedDoesNotCount(t *testing.T) { // P11.2: a write without room isn't one of those behind which the disk breaks
	d := New(4)
	d.Break(2, 1)
	for range 5 {
		appends(t, d, "abcde", api.ErrDiskFull, "")
		replaces(t, d, "abcde", api.ErrDiskFull, "")
	}
	appends(t, d, "ab", api.OK, "ab")
	for range 5 {
		appends(t, d, "cde", api.ErrDiskFull, "ab")
	}
	replaces(t, d, "c", api.OK, "c")
	for range 5 {
		replaces(t, d, "abcde", api.ErrDiskFull, "c")
	}
	appends(t, d, "de", api.ErrDead, "cd")
}

func TestSecondBreak(t *testing.T) { // P11.3: in place of the first, be it later or sooner
	d := written("ab")
	d.Break(0, 1)
	d.Break(1, 2)
	appends(t, d, "cde", api.OK, "abcde")
	appends(t, d, "fgh", api.ErrDead, "abcdefg")

	d = written("ab")
	d.Break(5, 2)
	d.Break(0, 1)
	appends(t, d, "cde", api.ErrDead, "abc")
	// The first one doesn't come back.
	d.Mend()
	for range 10 {
		replaces(t, d, "x", api.OK, "x")
	}

	// The writes that were counted are forgotten, too.
	d = written("ab")
	d.Break(2, 2)
	appends(t, d, "c", api.OK, "abc")
	d.Break(2, 0)
	appends(t, d, "d", api.OK, "abcd")
	appends(t, d, "e", api.OK, "abcde")
	appends(t, d, "f", api.ErrDead, "abcde")
}

func TestBreakOfADeadDisk(t *testing.T) { // P11.3: it stays dead, and Mend forgets that, too
	for _, writes := range []int{-1, 0, 1, 2} {
		d := written("ab")
		d.Break(0, 1)
		appends(t, d, "cd", api.ErrDead, "abc")
		d.Break(writes, 2)
		holds(t, d, "abc", true)
		for range 3 {
			appends(t, d, "cd", api.ErrDead, "abc")
			replaces(t, d, "cd", api.ErrDead, "abc")
		}
		d.Mend()
		appends(t, d, "de", api.OK, "abcde")
		for range 5 {
			replaces(t, d, "x", api.OK, "x")
		}
	}
}

func TestDead(t *testing.T) { // P11.3: from the write that breaks it to Mend
	for what, write := range writes() {
		d := New(10)
		d.Break(1, 0)
		for i, dead := range []bool{false, true, true} {
			write(d, "a")
			if d.Dead() != dead || d.Dead() != dead {
				t.Errorf("behind %s %d dead is %v", what, i, d.Dead())
			}
		}
		d.Mend()
		if d.Dead() {
			t.Errorf("%s: dead behind Mend", what)
		}
	}
}

func TestFullIsNotDead(t *testing.T) { // P11.3
	d := New(1)
	appends(t, d, "ab", api.ErrDiskFull, "")
	replaces(t, d, "ab", api.ErrDiskFull, "")
	appends(t, d, "a", api.OK, "a")
}

func TestMendOfADeadDisk(t *testing.T) { // P11.3: it has what it had when it died, its room too, and breaks no more
	for what, write := range writes() {
		d := New(6)
		d.Append([]byte("ab"))
		d.Break(0, 1)
		write(d, "cd")
		was := string(d.Bytes())
		holds(t, d, was, true)
		d.Mend()
		holds(t, d, was, false)
		for i := range 10 {
			if e := write(d, ""); e != api.OK {
				t.Errorf("%s %d behind Mend: %v", what, i, e)
			}
		}
		hasRoom(t, d, 6)
	}
}

func TestMendOfADiskThatIsToBreak(t *testing.T) { // P11.3: it doesn't any more
	for _, writes := range []int{-1, 0, 1, 2} {
		d := written("ab")
		d.Break(writes, 1)
		d.Mend()
		holds(t, d, "ab", false)
		want := "ab"
		for range 5 {
			want += "c"
			appends(t, d, "c", api.OK, want)
		}
		replaces(t, d, "x", api.OK, "x")
	}
}

func TestMendOfAWholeDisk(t *testing.T) { // P11.3: all stays as it is
	d := New(6)
	d.Mend()
	holds(t, d, "", false)
	appends(t, d, "ab", api.OK, "ab")
	d.Mend()
	d.Mend()
	appends(t, d, "cd", api.OK, "abcd")
	appends(t, d, "efg", api.ErrDiskFull, "abcd")
	hasRoom(t, d, 6)
}

func TestBreakBehindMend(t *testing.T) { // P11.3: a disk may break, be mended and break again
	d := New(100)
	want := ""
	for round := range 5 {
		d.Break(round, round)
		for range round {
			want += "a"
			appends(t, d, "a", api.OK, want)
		}
		want += "bcdef"[:round]
		appends(t, d, "bcdef", api.ErrDead, want)
		d.Mend()
		want += "g"
		appends(t, d, "g", api.OK, want)
		d.Break(0, 9)
		replaces(t, d, "x", api.ErrDead, want)
		d.Mend()
	}
}
