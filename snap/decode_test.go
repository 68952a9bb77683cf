package snap

import (
	"bytes"
	"math/rand"
	"slices"
	"testing"

	"catenary/api"
)

// written are the bytes of states that take all ways through Decode.
func written() []spelling {
	return []spelling{spell(api.App{}), spell(least()), spell(some()), spell(api.App{Entries: some().Entries}), spell(api.App{Leases: some().Leases}), spell(api.App{Sessions: some().Sessions})}
}

func TestDecodeCutOff(t *testing.T) { // P10.1
	refusesBytes(t, "nil", nil)
	refusesBytes(t, "no bytes", []byte{})
	for _, s := range append(written(), spell(most())) {
		for k := range s.b {
			refusesBytes(t, "cut off", slices.Clip(bytes.Clone(s.b[:k])))
			// Spare room isn't part of what is handed in.
			refusesBytes(t, "cut off, with more in the spare room", s.b[:k])
		}
	}
}

func TestDecodeMoreBehind(t *testing.T) { // P10.1
	for _, s := range append(written(), spell(most())) {
		for x := range 256 {
			refusesBytes(t, "one more behind", append(bytes.Clone(s.b), byte(x)))
		}
		for _, behind := range [][]byte{{0, 0}, {0, 0, 0, 0}, s.b, make([]byte, 1000)} {
			refusesBytes(t, "more behind", slices.Concat(s.b, behind))
		}
	}
}

func TestDecodeOtherNumbers(t *testing.T) { // P10.1: each number in more groups than it takes, or above MaxInt
	for _, s := range append(written(), spell(most())) {
		for _, at := range s.numbers {
			end := s.behind(at)
			number := bytes.Clone(s.b[at:end])
			number[len(number)-1] += 128
			for _, zeros := range [][]byte{{0}, {128, 0}, {128, 128, 0}, {128, 128, 128, 0}, {128, 128, 128, 128, 0}, bytes.Repeat([]byte{128}, 9)} {
				refusesBytes(t, "a longer number", s.instead(at, append(bytes.Clone(number), zeros...)...))
			}
			for _, above := range [][]byte{{128, 128, 128, 128, 8}, {255, 255, 255, 255, 15}, {128, 128, 128, 128, 16}, {129, 128, 128, 128, 128, 1}, bytes.Repeat([]byte{255}, 10)} {
				refusesBytes(t, "a number above MaxInt", s.instead(at, above...))
			}
		}
	}
}

// great are the bytes of numbers that are greater than any count may be, and than what follows.
var great = [][]byte{{65}, {66}, {100}, {127}, {128, 1}, {129, 1}, {128, 2}, {129, 2}, {255, 127}, {128, 128, 4}, {255, 255, 255, 127}, {255, 255, 255, 255, 7}}

func TestDecodeGreatCounts(t *testing.T) { // P10.1: greater than the limits, or than what follows
	for _, s := range append(written(), spell(most())) {
		for _, at := range s.counts {
			for _, number := range great {
				refusesBytes(t, "a great count", s.instead(at, number...))
				refusesBytes(t, "a great count at the end", slices.Concat(s.b[:at], number))
				refusesBytes(t, "a great count ahead of zeros", slices.Concat(s.b[:at], number, make([]byte, 1000)))
			}
		}
		// The sizes of texts, and all other numbers: what is taken for one is left to the limits of each.
		for _, at := range s.numbers {
			for _, number := range great {
				onlyItsOwn(t, s.instead(at, number...))
			}
		}
	}
}

func TestDecodeOneMore(t *testing.T) { // P10.1: a count that is one more, or one less, than what follows
	for _, s := range append(written(), spell(most())) {
		for _, at := range s.counts {
			many := s.b[at]
			refusesBytes(t, "one more", s.instead(at, many+1))
			if many > 0 {
				refusesBytes(t, "one less", s.instead(at, many-1))
			}
		}
	}
}

func TestDecodeEndsSoon(t *testing.T) { // P1: a count isn't followed where there is nothing; this would take hours
	for _, ahead := range [][]byte{{0}, {0, 0}, {0, 0, 0}} {
		b := slices.Concat(ahead, []byte{255, 255, 255, 255, 7}, make([]byte, 100))
		for range 10000 {
			if _, e := Decode(b); e != api.ErrSnap {
				t.Fatalf("Decode(%v): %v", b, e)
			}
		}
	}
}

func TestDecodeWrongBytes(t *testing.T) { // P10.1: written out
	long, longer := string(text(17)), string(text(65))
	for what, b := range map[string]string{
		"three bytes":                "\x00\x00\x00",
		"five bytes":                 "\x00\x00\x00\x00\x00",
		"a Slot in two groups":       "\x80\x00\x00\x00\x00",
		"a Slot above the last":      "\xc1\x84\x3d\x00\x00\x00",
		"a count in two groups":      "\x00\x80\x00\x00\x00",
		"entries out of order":       "\x00\x02\x01b\x00\x01a\x00\x00\x00",
		"one entry twice":            "\x00\x02\x01b\x00\x01b\x00\x00\x00",
		"a longer Name first":        "\x00\x02\x02aa\x00\x01a\x00\x00\x00",
		"an entry without a Name":    "\x00\x01\x00\x00\x00\x00",
		"an entry's Name too long":   "\x00\x01\x11" + long + "\x00\x00\x00",
		"an entry's Value too long":  "\x00\x01\x01a\x41" + longer + "\x00\x00",
		"one entry of two":           "\x00\x02\x01a\x00\x00\x00",
		"leases out of order":        "\x00\x00\x02\x01b\x01\x09\x01a\x01\x09\x00",
		"one lease twice":            "\x00\x00\x02\x01b\x01\x09\x01b\x01\x09\x00",
		"a lease without a Name":     "\x00\x00\x01\x00\x01\x09\x00",
		"a lease's Name too long":    "\x00\x00\x01\x11" + long + "\x01\x09\x00",
		"an Owner of 0":              "\x00\x00\x01\x01a\x00\x09\x00",
		"an Owner of 5":              "\x00\x00\x01\x01a\x05\x09\x00",
		"an Until of 0":              "\x00\x00\x01\x01a\x01\x00\x00",
		"an Until above MaxInt":      "\x00\x00\x01\x01a\x01\x80\x80\x80\x80\x08\x00",
		"one lease of two":           "\x00\x00\x02\x01a\x01\x09\x00",
		"sessions out of order":      "\x00\x00\x00\x02\x02\x05\x00\x00\x01\x05\x00\x00",
		"one session twice":          "\x00\x00\x00\x02\x01\x05\x00\x00\x01\x05\x00\x00",
		"a Client of 0":              "\x00\x00\x00\x01\x00\x05\x00\x00",
		"a Client of 5":              "\x00\x00\x00\x01\x05\x05\x00\x00",
		"a Stamp of 0":               "\x00\x00\x00\x01\x01\x00\x00\x00",
		"a Stamp above MaxInt":       "\x00\x00\x00\x01\x01\x80\x80\x80\x80\x08\x00\x00",
		"a Code of 7":                "\x00\x00\x00\x01\x01\x05\x07\x00",
		"a session's Value too long": "\x00\x00\x00\x01\x01\x05\x00\x41" + longer,
		"a Value that isn't all":     "\x00\x00\x00\x01\x01\x05\x00\x02v",
		"one session of two":         "\x00\x00\x00\x02\x01\x05\x00\x00",
		"five sessions":              "\x00\x00\x00\x05\x01\x05\x00\x00\x02\x05\x00\x00\x03\x05\x00\x00\x04\x05\x00\x00\x05\x05\x00\x00",
		"words":                      "a state",
		"very many zeros":            string(make([]byte, 100000)),
	} {
		refusesBytes(t, what, []byte(b))
	}
}

func TestDecodeShortBytes(t *testing.T) { // P10.1
	letters := []byte{0, 1, 2, 3, 5, 128}
	taken := make([]int, 9)
	for size := range taken {
		b := make([]byte, size)
		var fill func(at int)
		fill = func(at int) {
			if at == size {
				if onlyItsOwn(t, b) {
					taken[size]++
				}
				return
			}
			for _, x := range letters {
				b[at] = x
				fill(at + 1)
			}
		}
		fill(0)
	}
	// A Slot has 5 ways of one byte, 4 of two, 4 of three. Of seven bytes: an entry with a Name of one byte, 6 of them. Of eight: that, behind a Slot of two bytes; an entry with one byte more, in its Name or its Value; a lease, with 3 Owners and 4 Untils; a session, with 3 Clients, 4 Stamps and 5 Codes.
	want := []int{0, 0, 0, 0, 5, 4, 4, 5 * 6, 4*6 + 5*(36+36) + 5*(6*3*4) + 5*(3*4*5)}
	if !slices.Equal(taken, want) {
		t.Errorf("of the short bytes %v are states; want %v", taken, want)
	}
}

func TestDecodeChangedBytes(t *testing.T) { // P10.1
	for _, s := range written() {
		was, _ := Decode(s.b)
		for at := range s.b {
			b := bytes.Clone(s.b)
			for x := range 256 {
				b[at] = byte(x)
				if onlyItsOwn(t, b) && byte(x) != s.b[at] {
					if a, _ := Decode(b); sameState(a, was) {
						t.Errorf("Decode(%v) and Decode(%v) are the same", b, s.b)
					}
				}
			}
		}
	}
}

func TestDecodeDrawnBytes(t *testing.T) { // P10.1
	draw := rand.New(rand.NewSource(12))
	for range 2000 {
		b := spell(drawn(draw)).b
		for range 10 {
			other := bytes.Clone(b)
			for range 1 + draw.Intn(3) {
				other[draw.Intn(len(other))] = byte(draw.Intn(256) >> draw.Intn(8))
			}
			onlyItsOwn(t, other)
			from := draw.Intn(len(other))
			to := from + draw.Intn(len(other)-from)
			onlyItsOwn(t, slices.Delete(other, from, to))
		}
	}
}

func FuzzDecode(f *testing.F) { // P10.1
	for _, s := range append(written(), spell(most())) {
		f.Add(s.b)
	}
	f.Fuzz(func(t *testing.T, b []byte) { onlyItsOwn(t, b) })
}
