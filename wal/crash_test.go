package wal

import (
	"fmt"
	"math"
	"math/rand"
	"slices"
	"testing"

	"catenary/api"
	"catenary/disk"
)

func TestExample(t *testing.T) { // P12.3: the chapter's
	d := disk.New(1000)
	l := opened(t, d)
	adds(t, l, "x", api.OK)
	d.Break(0, 1)
	adds(t, l, "next", api.ErrDead)
	d.Mend()
	opened(t, d, "x")
}

// tears are all tears of a write of some bytes, and ones below and above them.
func tears(size int) []int {
	out := []int{math.MinInt, -1<<32 + 1, -2, -1, size + 1, size + 2, 2 * size, 1 << 32, math.MaxInt}
	for tear := range size + 1 {
		out = append(out, tear)
	}
	return out
}

// crashLists are lists of records with not too many bytes, so that each tear can be tried.
func crashLists() [][]string {
	return slices.DeleteFunc(recordLists(), func(records []string) bool { return len(spell(records...)) > 1000 })
}

func TestAddBreaksAtEveryTear(t *testing.T) { // P12.3: the record is there whole, or nothing of it
	for _, ahead := range crashLists() {
		for _, record := range []string{"", "x", "xyz", "\x00\x00", spell("p", "", "q"), letters(127), letters(128), letters(300)} {
			size := len(spell(record))
			for _, tear := range tears(size) {
				d := diskWith(t, spell(ahead...))
				l := opened(t, d, ahead...)
				d.Break(0, tear)
				adds(t, l, record, api.ErrDead)
				holds(t, d, spell(ahead...)+spell(record)[:min(size, max(0, tear))], true)
				refused(t, d, api.ErrDead)
				d.Mend()
				if tear >= size {
					opened(t, d, append(slices.Clone(ahead), record)...)
				} else {
					opened(t, d, ahead...)
				}
			}
		}
	}
}

func TestCompactBreaksAtEveryTear(t *testing.T) { // P12.3: what was there is there, whatever the tear
	for _, before := range crashLists() {
		for _, records := range crashLists() {
			for _, tear := range tears(len(spell(records...))) {
				d := diskWith(t, spell(before...))
				l := opened(t, d, before...)
				d.Break(0, tear)
				compacts(t, l, api.ErrDead, records...)
				holds(t, d, spell(before...), true)
				refused(t, d, api.ErrDead)
				d.Mend()
				opened(t, d, before...)
			}
		}
	}
}

func TestCrashBehindCompact(t *testing.T) { // P12.3: what was added ahead of the last Compact that was OK is gone
	record := letters(130)
	for tear := range len(spell(record)) {
		d := disk.New(1000)
		l := opened(t, d)
		adds(t, l, "old", api.OK)
		compacts(t, l, api.OK, "state", "")
		adds(t, l, "a", api.OK)
		adds(t, l, "b", api.OK)
		d.Break(0, tear)
		adds(t, l, record, api.ErrDead)
		d.Mend()
		l = opened(t, d, "state", "", "a", "b")
		d.Break(0, tear)
		compacts(t, l, api.ErrDead, "other")
		d.Mend()
		opened(t, d, "state", "", "a", "b")
	}
}

func TestRefusedWritesLeaveNothing(t *testing.T) { // P12.3: neither ahead of a crash nor behind it
	d := disk.New(9)
	l := opened(t, d)
	adds(t, l, "ab", api.OK)
	adds(t, l, letters(6), api.ErrDiskFull)
	compacts(t, l, api.ErrDiskFull, letters(9))
	adds(t, l, "c", api.OK)
	d.Break(0, 2)
	adds(t, l, "def", api.ErrDead)
	adds(t, l, "g", api.ErrDead)
	compacts(t, l, api.ErrDead, "h")
	d.Mend()
	l = opened(t, d, "ab", "c")
	adds(t, l, "def", api.OK)
	adds(t, l, "", api.ErrDiskFull)
	opened(t, d, "ab", "c", "def")
}

func TestManyCrashes(t *testing.T) { // P12.3: one after the other, each at another tear
	for first := range 5 {
		for second := range 5 {
			for third := range 5 {
				d, want := disk.New(1000), []string(nil)
				for i, tear := range []int{first, second, third} {
					l := opened(t, d, want...)
					name := string(rune('a' + i))
					adds(t, l, name, api.OK)
					want = append(want, name)
					d.Break(0, tear)
					adds(t, l, name+"xy", api.ErrDead)
					d.Mend()
					if tear == len(spell(name+"xy")) {
						want = append(want, name+"xy")
					}
				}
				opened(t, d, want...)
			}
		}
	}
}

func TestCrashesWhileOpening(t *testing.T) { // P12.3: an Open that breaks the disk loses nothing, however often
	d := disk.New(1000)
	l := opened(t, d)
	adds(t, l, "ab", api.OK)
	adds(t, l, "", api.OK)
	d.Break(0, 3)
	adds(t, l, "cdef", api.ErrDead)
	for tear := range 5 {
		d.Mend()
		d.Break(0, tear)
		refused(t, d, api.ErrDead)
	}
	d.Mend()
	l = opened(t, d, "ab", "")
	adds(t, l, "g", api.OK)
	opened(t, d, "ab", "", "g")
}

// run is a log that drawn things happen to, and what its disk must hold.
type run struct {
	draw *rand.Rand
	d    *disk.Disk
	l    *Log
	// records are those that Open must find; perhaps is the one that broke the disk, with how many bytes of it are there.
	records []string
	perhaps string
	torn    int
	did     []string
	// whole and lost count the records that broke the disk: those that were there, and those that weren't.
	whole, lost int
}

func (r *run) tell(format string, args ...any) { r.did = append(r.did, fmt.Sprintf(format, args...)) }

// write does an Add or a Compact that is drawn.
func (r *run) write() {
	record := letters(r.draw.Intn(6))
	if r.draw.Intn(20) == 0 {
		record = letters(120 + r.draw.Intn(20))
	}
	dead := r.d.Dead()
	if r.draw.Intn(6) > 0 {
		was := len(r.d.Bytes())
		e := r.l.Add([]byte(record))
		r.tell("Add of %q: %v", record, e)
		if e == api.OK {
			r.records = append(r.records, record)
		} else if e == api.ErrDead && !dead {
			r.perhaps, r.torn = record, len(r.d.Bytes())-was
		}
		return
	}
	records := slices.Repeat([]string{record}, r.draw.Intn(4))
	e := r.l.Compact(asBytes(records)...)
	r.tell("Compact to %q: %v", records, e)
	if e == api.OK {
		r.records = records
	}
}

// restart mends the disk and opens it, at times with a break in between.
func (r *run) restart(t *testing.T) {
	t.Helper()
	r.d.Mend()
	if r.torn > 0 && r.torn == len(spell(r.perhaps)) {
		r.records = append(r.records, r.perhaps)
		r.whole++
	} else if r.torn > 0 {
		r.lost++
		if r.draw.Intn(3) == 0 {
			r.d.Break(0, r.draw.Intn(9))
			refused(t, r.d, api.ErrDead)
			r.d.Mend()
		}
	}
	r.perhaps, r.torn = "", 0
	r.d.Room(len(spell(r.records...)) + r.draw.Intn(300))
	r.tell("Open")
	l, records, e := Open(r.d)
	if e != api.OK || !slices.Equal(asTexts(records), r.records) || string(r.d.Bytes()) != spell(r.records...) {
		t.Fatalf("behind %q: %q, %v; want %q", r.did, asTexts(records), e, r.records)
	}
	r.l = l
}

func TestDrawnCrashes(t *testing.T) { // P12.2, P12.3: writes, breaks and restarts in any order
	draw := rand.New(rand.NewSource(3))
	whole, lost := 0, 0
	for range 500 {
		r := &run{draw: draw, d: disk.New(0)}
		r.restart(t)
		for range 60 {
			switch kind := draw.Intn(12); {
			case kind < 8:
				r.write()
			case kind < 11 && !r.d.Dead():
				writes, tear := draw.Intn(4), draw.Intn(7)-1
				r.d.Break(writes, tear)
				r.tell("Break(%d, %d)", writes, tear)
			default:
				r.restart(t)
			}
		}
		r.restart(t)
		whole, lost = whole+r.whole, lost+r.lost
	}
	if whole < 500 || lost < 500 {
		t.Errorf("only %d records broke the disk and were there whole, %d were torn", whole, lost)
	}
}
