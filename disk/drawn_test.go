package disk

import (
	"fmt"
	"math/rand"
	"strings"
	"testing"

	"catenary/api"
)

// told is a disk as the chapter tells it; toCome says of each write to come whether it breaks the disk, and behind those that are told none does.
type told struct {
	text   string
	room   int
	dead   bool
	toCome []bool
	tear   int
}

// write: what is there behind a write that is whole, and behind one that breaks the disk.
func (m *told) write(whole, torn string) api.Errno {
	switch {
	case m.dead:
		return api.ErrDead
	case len(whole) > m.room:
		return api.ErrDiskFull
	case len(m.toCome) == 0:
		m.text = whole
		return api.OK
	}
	breaks := m.toCome[0]
	m.toCome = m.toCome[1:]
	if breaks {
		m.text, m.dead = torn, true
		return api.ErrDead
	}
	m.text = whole
	return api.OK
}

func (m *told) appends(text string) api.Errno {
	torn := m.text
	for i, letter := range text {
		if i < m.tear {
			torn += string(letter)
		}
	}
	return m.write(m.text+text, torn)
}

func (m *told) breaks(writes, tear int) {
	m.toCome, m.tear = append(make([]bool, max(0, writes)), true), tear
}

// drawnCall does a call that is drawn to a disk and to what is told of it: its name, what it answers, what it is to answer.
func drawnCall(draw *rand.Rand, d *Disk, m *told) (string, api.Errno, api.Errno) {
	text := strings.Repeat(string(rune('a'+draw.Intn(26))), draw.Intn(6))
	switch kind := draw.Intn(20); {
	case kind < 8:
		return "Append of " + text, d.Append([]byte(text)), m.appends(text)
	case kind < 12:
		return "Replace by " + text, d.Replace([]byte(text)), m.write(text, m.text)
	case kind < 15:
		writes, tear := draw.Intn(6)-1, draw.Intn(9)-2
		d.Break(writes, tear)
		m.breaks(writes, tear)
		return fmt.Sprintf("Break(%d, %d)", writes, tear), api.OK, api.OK
	case kind < 18:
		d.Mend()
		m.dead, m.toCome = false, nil
		return "Mend", api.OK, api.OK
	}
	room := draw.Intn(30) - 2
	d.Room(room)
	m.room = max(0, room)
	return fmt.Sprintf("Room(%d)", room), api.OK, api.OK
}

func TestDrawnCalls(t *testing.T) { // P11.1, P11.2, P11.3: in any order
	draw := rand.New(rand.NewSource(1))
	met := map[api.Errno]int{}
	for range 1000 {
		room := draw.Intn(30) - 2
		d, m := New(room), &told{room: max(0, room)}
		did := []string{fmt.Sprintf("New(%d)", room)}
		for range 60 {
			name, e, want := drawnCall(draw, d, m)
			did = append(did, name)
			met[want]++
			if e != want || string(d.Bytes()) != m.text || d.Dead() != m.dead {
				t.Fatalf("behind %q: %v, %q, dead: %v; want %v, %q, %v", did, e, d.Bytes(), d.Dead(), want, m.text, m.dead)
			}
		}
	}
	for _, e := range []api.Errno{api.OK, api.ErrDiskFull, api.ErrDead} {
		if met[e] < 1000 {
			t.Errorf("only %d calls were to answer %v", met[e], e)
		}
	}
}
