package msg

import (
	"bytes"
	"slices"
	"strconv"
	"testing"

	"catenary/api"
)

func TestDecodeNothing(t *testing.T) { // P5.2
	refusesBytes(t, "nil", nil, api.ErrMsg)
	refusesBytes(t, "empty", []byte{}, api.ErrMsg)
	// Spare room isn't part of what is handed in.
	refusesBytes(t, "empty", []byte{11, 4, 2}[:0], api.ErrMsg)
}

func TestDecodeWrittenOut(t *testing.T) { // P5.2
	for _, b := range [][]byte{
		{11}, {11, 4}, {11, 4, 2, 0}, {11, 4, 2, 11, 4, 2}, {11, 128, 0, 2}, {11, 4, 130, 0}, {139, 0, 4, 2}, {11, 4, 130, 128, 0},
		{11, 255, 255, 255, 255, 8, 2}, {11, 128, 128, 128, 128, 8, 2}, {11, 128, 128, 128, 128, 128, 1, 2}, {11, 255, 255, 255, 255, 255, 255, 255, 255, 255, 1, 2},
		{14}, {14, 0}, {0}, {0, 0, 0}, {26}, {26, 0, 0}, {255}, {128}, {139, 1, 4, 2},
		{9, 0, 0, 0, 65}, {8}, {8, 1}, {8, 65}, {8, 0, 0}, {20, 0}, {20, 0, 0, 0},
		{1, 1, 1, 1, 'a'}, {1, 1, 1, 2, 'a', 0}, {1, 1, 1, 1, 'a', 1}, {1, 1, 1, 255, 255, 255, 255, 7}, {25, 8, 0}, {25, 8, 0, 1, 1}, {25, 8, 0, 1, 1, 1},
	} {
		refusesBytes(t, "written out", b, api.ErrMsg)
	}
}

func TestDecodeNoKind(t *testing.T) { // P5.2
	for _, kind := range noKinds() {
		for zeros := range 20 {
			s := &spelling{}
			s.number(kind)
			refusesBytes(t, "kind "+strconv.Itoa(kind), append(s.b, make([]byte, zeros)...), api.ErrMsg)
		}
	}
}

func TestDecodeCutOff(t *testing.T) { // P5.2
	for _, kind := range kinds {
		for _, m := range []api.Msg{{Kind: kind}, full(kind)} {
			b := spell(m).b
			for k := range b {
				refusesBytes(t, "cut off", b[:k], api.ErrMsg)
				refusesBytes(t, "cut off", slices.Clip(bytes.Clone(b[:k])), api.ErrMsg)
			}
		}
	}
}

func TestDecodeMoreBehind(t *testing.T) { // P5.2
	for _, kind := range kinds {
		for _, m := range []api.Msg{{Kind: kind}, full(kind)} {
			b := spell(m).b
			for _, behind := range [][]byte{{0}, {1}, {127}, {128}, {255}, {0, 0}, b, make([]byte, 1000)} {
				refusesBytes(t, "more behind", slices.Concat(b, behind), api.ErrMsg)
			}
		}
	}
}

func TestDecodeLongNumbers(t *testing.T) { // P5.2: each number in a longer way than it need be, or above MaxInt
	for _, kind := range kinds {
		for _, m := range []api.Msg{{Kind: kind}, full(kind)} {
			s := spell(m)
			for _, at := range s.numbers {
				end := at
				for s.b[end] >= 128 {
					end++
				}
				for _, zeros := range [][]byte{{0}, {128, 0}, {128, 128, 0}, {128, 128, 128, 0}, {128, 128, 128, 128, 0}, bytes.Repeat([]byte{128}, 9)} {
					b := slices.Concat(s.b[:end], []byte{s.b[end] + 128}, zeros, s.b[end+1:])
					refusesBytes(t, "a longer way", b, api.ErrMsg)
				}
				for _, above := range [][]byte{{128, 128, 128, 128, 8}, {255, 255, 255, 255, 15}, {128, 128, 128, 128, 16}, {128, 128, 128, 128, 128, 1}, bytes.Repeat([]byte{255}, 10)} {
					refusesBytes(t, "above MaxInt", slices.Concat(s.b[:at], above, s.b[end+1:]), api.ErrMsg)
				}
			}
		}
	}
}

func TestDecodeMany(t *testing.T) { // P5.2: whatever stands there
	for _, size := range []int{api.MaxMsg + 1, api.MaxMsg + 2, 2 * api.MaxMsg} {
		for _, first := range []byte{0, 1, 8, 11, 14, 255} {
			refusesBytes(t, "too many", append([]byte{first}, make([]byte, size-1)...), api.ErrMsgMany)
		}
	}
	for _, first := range []byte{0, 1, 8, 11, 14, 255} {
		refusesBytes(t, "as many as may be", append([]byte{first}, make([]byte, api.MaxMsg-1)...), api.ErrMsg)
	}
	// Spare room isn't counted.
	b := append(make([]byte, 0, 2*api.MaxMsg), 11, 4, 2)
	if m, e := Decode(b); e != api.OK || !sameMessage(m, api.Msg{Kind: api.KFetch, Slot: 4, From: 2}) {
		t.Errorf("Decode of %v: %v, %v", b, m, e)
	}
}

// onlyItsOwn asks that bytes which are read are those that their message is written with, and tells whether they were read.
func onlyItsOwn(t *testing.T, b []byte) bool {
	t.Helper()
	m, e := Decode(b)
	if e == api.ErrMsg {
		return false
	}
	if again, f := Encode(m); e != api.OK || f != api.OK || !bytes.Equal(again, b) {
		t.Errorf("Decode of %v: %v, %v; Encode of that: %v, %v", b, m, e, again, f)
	}
	return true
}

func TestDecodeAllShortBytes(t *testing.T) { // P5.2
	read := 0
	count := func(b ...byte) {
		if onlyItsOwn(t, b) {
			read++
		}
	}
	count()
	for x := range 256 {
		count(byte(x))
		for y := range 256 {
			count(byte(x), byte(y))
		}
	}
	for _, kind := range kinds {
		for x := range 256 {
			for y := range 256 {
				count(byte(kind), byte(x), byte(y))
			}
		}
	}
	// No report; a fetch or a promise with two numbers of one byte each.
	if want := 1 + 2*128*128; read != want {
		t.Errorf("%d of the short bytes are messages; want %d", read, want)
	}
}

func TestDecodeChangedBytes(t *testing.T) { // P5.2
	for _, kind := range kinds {
		m := full(kind)
		b := spell(m).b
		for at := range b {
			was := b[at]
			for x := range 256 {
				b[at] = byte(x)
				if onlyItsOwn(t, b) && byte(x) != was {
					if other, _ := Decode(b); sameMessage(other, m) {
						t.Errorf("kind %d with %d at %d is read as with %d", kind, x, at, was)
					}
				}
			}
			b[at] = was
		}
	}
}

func FuzzDecode(f *testing.F) { // P5.2
	for _, kind := range kinds {
		f.Add(spell(full(kind)).b)
		f.Add(spell(api.Msg{Kind: kind}).b)
	}
	f.Fuzz(func(t *testing.T, b []byte) {
		if len(b) > api.MaxMsg {
			refusesBytes(t, "too many", b, api.ErrMsgMany)
			return
		}
		onlyItsOwn(t, b)
	})
}
