package snap

import (
	"bytes"
	"encoding/binary"
	"math"
	"math/rand"
	"slices"
	"testing"

	"catenary/api"
)

// The limits, written out.
const (
	lastSlot = 1000000
	lastInt  = 2147483647
)

// text is a text of some size that isn't all one byte.
func text(size int) []byte {
	b := make([]byte, size)
	for i := range b {
		b[i] = byte(200 + 7*i)
	}
	return b
}

func entry(name, value string) api.Entry { return api.Entry{Name: []byte(name), Value: []byte(value)} }

func held(name string, owner, until int) api.Lease {
	return api.Lease{Name: []byte(name), Owner: owner, Until: until}
}

func seen(client, stamp, code int, value string) api.Session {
	return api.Session{Client: client, Stamp: stamp, Result: api.Result{Code: code, Value: []byte(value)}}
}

// some is a state with several of all; a name is an entry's and a lease's, and numbers take one byte, two and five.
func some() api.App {
	return api.App{
		Slot:     300,
		Entries:  []api.Entry{entry("a", "xy"), entry("aa", ""), entry("b", "\x00\xff\x80")},
		Leases:   []api.Lease{held("a", 2, 9), held("l", 4, lastInt)},
		Sessions: []api.Session{seen(1, 5, api.Held, "\x07"), seen(2, 128, api.Yes, ""), seen(4, lastInt, api.Old, "last")},
	}
}

// name is a name of some size, above those of lower numbers, whatever their sizes are.
func name(number, size int) string {
	return string(append([]byte{byte(10 + number)}, text(size-1)...))
}

// manyEntries are as many as are asked for, with rising Names.
func manyEntries(many, nameSize, valueSize int) []api.Entry {
	var out []api.Entry
	for i := range many {
		out = append(out, entry(name(i, nameSize), string(text(valueSize))))
	}
	return out
}

// manyLeases are as many as are asked for, with rising Names.
func manyLeases(many, nameSize, until int) []api.Lease {
	var out []api.Lease
	for i := range many {
		out = append(out, held(name(i, nameSize), 1+i%4, until))
	}
	return out
}

// manySessions are as many as are asked for, with rising Clients.
func manySessions(many, stamp, valueSize int) []api.Session {
	var out []api.Session
	for i := range many {
		out = append(out, seen(1+i, stamp, 6-i%7, string(text(valueSize))))
	}
	return out
}

// most is the state with as much as can be.
func most() api.App {
	return api.App{Slot: lastSlot, Entries: manyEntries(64, 16, 64), Leases: manyLeases(16, 16, lastInt), Sessions: manySessions(4, lastInt, 64)}
}

// least is the state with one of all, each with as little as can be.
func least() api.App {
	return api.App{Entries: manyEntries(1, 1, 0), Leases: manyLeases(1, 1, 1), Sessions: manySessions(1, 1, 0)}
}

// rightStates are of all kinds, with none, some and as much as can be of each of their parts.
func rightStates() []api.App {
	var out []api.App
	for _, slot := range []api.App{{}, least(), some(), most()} {
		for _, entries := range []api.App{{}, least(), some(), most()} {
			for _, leases := range []api.App{{}, least(), some(), most()} {
				for _, sessions := range []api.App{{}, least(), some(), most()} {
					out = append(out, api.App{Slot: slot.Slot, Entries: entries.Entries, Leases: leases.Leases, Sessions: sessions.Sessions})
				}
			}
		}
	}
	return out
}

// drawn is a right state of numbers, texts and counts that are drawn.
func drawn(draw *rand.Rand) api.App {
	number := func(least, most int) int { return least + draw.Intn(most>>draw.Intn(24)+1)%(most-least+1) }
	a := api.App{Slot: number(0, lastSlot)}
	for i := range draw.Intn(65) {
		a.Entries = append(a.Entries, entry(name(i, 1+draw.Intn(16)), string(text(draw.Intn(65)))))
	}
	for i := range draw.Intn(17) {
		a.Leases = append(a.Leases, held(name(i, 1+draw.Intn(16)), 1+draw.Intn(4), number(1, lastInt)))
	}
	for client := 1; client <= 4; client++ {
		if draw.Intn(3) > 0 {
			a.Sessions = append(a.Sessions, seen(client, number(1, lastInt), draw.Intn(7), string(text(draw.Intn(65)))))
		}
	}
	return a
}

// spelling is a state's bytes, made without the layers below, and where its numbers stand in them, those of texts' sizes and of lists' counts among them.
type spelling struct {
	b       []byte
	numbers []int
	counts  []int
}

func (s *spelling) number(n int) {
	s.numbers = append(s.numbers, len(s.b))
	s.b = binary.AppendUvarint(s.b, uint64(n))
}

func (s *spelling) count(n int) {
	s.counts = append(s.counts, len(s.b))
	s.number(n)
}

func (s *spelling) text(p []byte) {
	s.number(len(p))
	s.b = append(s.b, p...)
}

// spell spells states that aren't right, too.
func spell(a api.App) spelling {
	var s spelling
	s.number(a.Slot)
	s.count(len(a.Entries))
	for _, e := range a.Entries {
		s.text(e.Name)
		s.text(e.Value)
	}
	s.count(len(a.Leases))
	for _, l := range a.Leases {
		s.text(l.Name)
		s.number(l.Owner)
		s.number(l.Until)
	}
	s.count(len(a.Sessions))
	for _, last := range a.Sessions {
		s.number(last.Client)
		s.number(last.Stamp)
		s.number(last.Result.Code)
		s.text(last.Result.Value)
	}
	return s
}

// behind is where the number at a place ends.
func (s *spelling) behind(at int) int {
	for s.b[at] >= 128 {
		at++
	}
	return at + 1
}

// instead is the bytes with others instead of the number at a place.
func (s *spelling) instead(at int, others ...byte) []byte {
	return slices.Concat(s.b[:at], others, s.b[s.behind(at):])
}

func sameState(a, b api.App) bool {
	return a.Slot == b.Slot && slices.EqualFunc(a.Entries, b.Entries, func(a, b api.Entry) bool {
		return bytes.Equal(a.Name, b.Name) && bytes.Equal(a.Value, b.Value)
	}) && slices.EqualFunc(a.Leases, b.Leases, func(a, b api.Lease) bool {
		return bytes.Equal(a.Name, b.Name) && a.Owner == b.Owner && a.Until == b.Until
	}) && slices.EqualFunc(a.Sessions, b.Sessions, func(a, b api.Session) bool {
		return a.Client == b.Client && a.Stamp == b.Stamp && a.Result.Code == b.Result.Code && bytes.Equal(a.Result.Value, b.Result.Value)
	})
}

// takes asks that a state is written as it is spelt, and is read again.
func takes(t *testing.T, a api.App) {
	t.Helper()
	want := spell(a).b
	if b, e := Encode(a); e != api.OK || !bytes.Equal(b, want) {
		t.Errorf("Encode(%v) = %v, %v; want %v", a, b, e, want)
	}
	if got, e := Decode(want); e != api.OK || !sameState(got, a) {
		t.Errorf("Decode(%v) = %v, %v; want %v", want, got, e, a)
	}
}

// refuses asks that a state isn't written, and that what would be its bytes are none.
func refuses(t *testing.T, what string, a api.App) {
	t.Helper()
	if b, e := Encode(a); e != api.ErrSnap || len(b) != 0 {
		t.Errorf("%s: Encode(%v) = %v, %v; want ErrSnap alone", what, a, b, e)
	}
	refusesBytes(t, what, spell(a).b)
}

func refusesBytes(t *testing.T, what string, b []byte) {
	t.Helper()
	if a, e := Decode(b); e != api.ErrSnap || !sameState(a, api.App{}) {
		t.Errorf("%s: Decode(%v) = %v, %v; want ErrSnap alone", what, b, a, e)
	}
}

// takesIf asks that a state is taken, or that it is refused.
func takesIf(t *testing.T, may bool, what string, a api.App) {
	t.Helper()
	if may {
		takes(t, a)
	} else {
		refuses(t, what, a)
	}
}

// onlyItsOwn asks that bytes which are read are those that their state is written with, and tells whether they were read.
func onlyItsOwn(t *testing.T, b []byte) bool {
	t.Helper()
	a, e := Decode(b)
	if e == api.ErrSnap {
		if !sameState(a, api.App{}) {
			t.Errorf("Decode(%v) = %v beside ErrSnap", b, a)
		}
		return false
	}
	if again, f := Encode(a); e != api.OK || f != api.OK || !bytes.Equal(again, b) || !bytes.Equal(spell(a).b, b) {
		t.Errorf("Decode(%v) = %v, %v; Encode of that: %v, %v", b, a, e, again, f)
	}
	return true
}

// around are numbers of all sizes, those ahead of and behind the limits among them; some have a right one in their lowest bits.
func around() []int {
	out := []int{math.MinInt, math.MinInt + 1, -1 << 32, -1<<32 + 1, -lastInt, -lastSlot, -256, -255, math.MaxInt - 1, math.MaxInt, 1 << 32, 1<<32 + 1, 1<<32 + 300, 256, 257, 260}
	for _, limit := range []int{0, 4, 6, 16, 64, 127, 128, 300, 16383, lastSlot, lastInt} {
		out = append(out, limit-2, limit-1, limit, limit+1, limit+2)
	}
	return out
}
