package octet

import (
	"bytes"
	"math"
	"testing"

	"catenary/api"
)

// numbers holds a number beside its one way of writing, at each edge between two lengths.
var numbers = []struct {
	n int
	b []byte
}{
	{0, []byte{0}},
	{1, []byte{1}},
	{127, []byte{127}},
	{128, []byte{128, 1}},
	{300, []byte{172, 2}},
	{16383, []byte{255, 127}},
	{16384, []byte{128, 128, 1}},
	{2097151, []byte{255, 255, 127}},
	{2097152, []byte{128, 128, 128, 1}},
	{268435455, []byte{255, 255, 255, 127}},
	{268435456, []byte{128, 128, 128, 128, 1}},
	{api.MaxInt - 1, []byte{254, 255, 255, 255, 7}},
	{api.MaxInt, []byte{255, 255, 255, 255, 7}},
}

// roomy answers a list with the same bytes and spare room that is filled with 'x'.
func roomy(b []byte) []byte {
	all := append(append(make([]byte, 0, len(b)+16), b...), bytes.Repeat([]byte{'x'}, 16)...)
	return all[:len(b)]
}

// wasWritten tells whether a list of roomy isn't what it was, spare room included.
func wasWritten(got, want []byte) bool {
	spare := got[len(got):cap(got)]
	return !bytes.Equal(got, want) || len(bytes.Trim(spare, "x")) != 0
}

// fill writes over a list and its spare room.
func fill(b []byte, with byte) {
	b = b[:cap(b)]
	for i := range b {
		b[i] = with
	}
}

func TestInt(t *testing.T) { // P1.1
	for _, c := range numbers {
		b, e := Int(c.n)
		if e != api.OK || !bytes.Equal(b, c.b) {
			t.Errorf("Int(%d) = %v, %d; want %v", c.n, b, e, c.b)
		}
	}
}

func TestIntRange(t *testing.T) { // P1.1
	for _, n := range []int{-1, -128, math.MinInt, api.MaxInt + 1, 1 << 32, 1<<32 + 5, 1 << 35, math.MaxInt} {
		b, e := Int(n)
		if e != api.ErrOctetRange || len(b) != 0 {
			t.Errorf("Int(%d) = %v, %d; want ErrOctetRange alone", n, b, e)
		}
	}
}

func TestIntIsNewMemory(t *testing.T) {
	b, _ := Int(300)
	fill(b, 9)
	if b, _ := Int(300); !bytes.Equal(b, []byte{172, 2}) {
		t.Errorf("Int(300) = %v behind a write into its earlier answer", b)
	}
}

func TestGetInt(t *testing.T) { // P1.1
	for _, c := range numbers {
		for _, ahead := range []int{0, 1, 7} {
			b := append(bytes.Repeat([]byte{255}, ahead), c.b...)
			for _, behind := range [][]byte{nil, {0}, {255}} {
				n, next, e := GetInt(append(bytes.Clone(b), behind...), ahead)
				if e != api.OK || n != c.n || next != len(b) {
					t.Errorf("GetInt of %v at %d, %v behind: %d, %d, %d; want %d, %d", b, ahead, behind, n, next, e, c.n, len(b))
				}
			}
		}
	}
}

func refuseInt(t *testing.T, b []byte, at int) {
	t.Helper()
	n, next, e := GetInt(b, at)
	if e != api.ErrOctet || n != 0 || next != 0 {
		t.Errorf("GetInt(%v, %d) = %d, %d, %d; want ErrOctet alone", b, at, n, next, e)
	}
}

func TestGetIntPlace(t *testing.T) { // P1.1
	b := []byte{1, 2, 3}
	for _, at := range []int{-1, -3, math.MinInt, 3, 4, 1 << 32, math.MaxInt} {
		refuseInt(t, b, at)
	}
	for _, at := range []int{-1, 0, 1} {
		refuseInt(t, nil, at)
		refuseInt(t, []byte{}, at)
	}
	// Spare room isn't part of what is handed in.
	refuseInt(t, roomy(b), 3)
}

func TestGetIntCutOff(t *testing.T) { // P1.1
	for _, c := range numbers {
		for k := range len(c.b) {
			refuseInt(t, c.b[:k], 0)
			refuseInt(t, append([]byte{5}, c.b[:k]...), 1)
		}
	}
}

func TestGetIntOtherWays(t *testing.T) { // P1.1
	for _, c := range numbers {
		long := bytes.Clone(c.b)
		for range 12 {
			long[len(long)-1] |= 128
			long = append(long, 0)
			refuseInt(t, long, 0)
		}
	}
}

func TestGetIntAboveMaxInt(t *testing.T) { // P1.1
	for _, b := range [][]byte{
		{128, 128, 128, 128, 8},
		{255, 255, 255, 255, 8},
		{128, 128, 128, 128, 16},
		{133, 128, 128, 128, 16},
		{255, 255, 255, 255, 127},
		{128, 128, 128, 128, 128, 1},
		{129, 128, 128, 128, 128, 128, 128, 128, 128, 2},
		{255, 255, 255, 255, 255, 255, 255, 255, 255, 1},
		{129, 128, 128, 128, 128, 128, 128, 128, 128, 128, 1},
		bytes.Repeat([]byte{255}, 1000),
	} {
		refuseInt(t, b, 0)
	}
}

func TestGetIntIsIntTurnedRound(t *testing.T) { // P1.1: just one way
	for i := range 1 << 24 {
		b := []byte{byte(i), byte(i >> 8), byte(i >> 16)}
		n, next, e := GetInt(b, 0)
		if e != api.OK {
			continue
		}
		if w, e := Int(n); e != api.OK || !bytes.Equal(w, b[:next]) {
			t.Fatalf("GetInt(%v) = %d, %d, but Int(%d) = %v, %d", b, n, next, n, w, e)
		}
	}
}

func TestBytes(t *testing.T) { // P1.2
	for _, size := range []int{0, 1, 2, 127, 128, 300, 16383, 16384, 70000} {
		p := bytes.Repeat([]byte{200}, size)
		length, _ := Int(size)
		if b := Bytes(p); !bytes.Equal(b, append(length, p...)) {
			t.Errorf("Bytes of %d bytes begins with %v, has %d", size, b[:min(len(b), 6)], len(b))
		}
	}
	if b := Bytes(nil); !bytes.Equal(b, []byte{0}) {
		t.Errorf("Bytes(nil) = %v; want 0", b)
	}
	if b := Bytes([]byte("abc")); !bytes.Equal(b, []byte{3, 'a', 'b', 'c'}) {
		t.Errorf("Bytes(abc) = %v", b)
	}
}

func TestGetBytes(t *testing.T) { // P1.2
	for _, size := range []int{0, 1, 2, 127, 128, 300, 16384} {
		p := bytes.Repeat([]byte{131}, size)
		for _, ahead := range []int{0, 3} {
			b := append(bytes.Repeat([]byte{255}, ahead), Bytes(p)...)
			for _, most := range []int{size, size + 1, api.MaxInt, math.MaxInt} {
				for _, behind := range [][]byte{nil, {0}, {255, 1}} {
					q, next, e := GetBytes(append(bytes.Clone(b), behind...), ahead, most)
					if e != api.OK || !bytes.Equal(q, p) || next != len(b) {
						t.Errorf("GetBytes of %d bytes at %d, at most %d: %d bytes, %d, %d", size, ahead, most, len(q), next, e)
					}
				}
			}
		}
	}
}

func refuseBytes(t *testing.T, b []byte, at, most int) {
	t.Helper()
	p, next, e := GetBytes(b, at, most)
	if e != api.ErrOctet || len(p) != 0 || next != 0 {
		t.Errorf("GetBytes(%v, %d, %d) = %v, %d, %d; want ErrOctet alone", b, at, most, p, next, e)
	}
}

func TestGetBytesTooLong(t *testing.T) { // P1.2
	b := Bytes([]byte("abc"))
	for _, most := range []int{2, 1, 0, -1, math.MinInt} {
		refuseBytes(t, b, 0, most)
	}
	for _, most := range []int{-1, -5, math.MinInt} {
		refuseBytes(t, []byte{0}, 0, most)
	}
}

func TestGetBytesNotAllThere(t *testing.T) { // P1.2
	b := Bytes(bytes.Repeat([]byte{7}, 200))
	for k := range len(b) {
		refuseBytes(t, b[:k], 0, 1000)
	}
	refuseBytes(t, []byte{4, 1, 2, 3}, 0, 1000)
	refuseBytes(t, []byte{255, 255, 255, 255, 7}, 0, math.MaxInt)
	refuseBytes(t, []byte{255, 255, 255, 255, 7, 1, 2, 3}, 0, math.MaxInt)
	// Spare room isn't part of what is handed in.
	refuseBytes(t, roomy([]byte{4, 1, 2, 3}), 0, 1000)
}

func TestGetBytesNoNumber(t *testing.T) { // P1.2
	b := []byte{1, 'a', 128, 0, 255, 255, 255, 255, 8, 1}
	for _, at := range []int{-1, math.MinInt, 2, 4, len(b), len(b) + 1, math.MaxInt} {
		refuseBytes(t, b, at, math.MaxInt)
	}
	refuseBytes(t, nil, 0, math.MaxInt)
}

func TestPack(t *testing.T) { // P1.3
	long := bytes.Repeat([]byte{3}, 200)
	for _, c := range []struct {
		parts [][]byte
		want  []byte
	}{
		{nil, nil},
		{[][]byte{}, nil},
		{[][]byte{nil}, []byte{0}},
		{[][]byte{{}, nil}, []byte{0, 0}},
		{[][]byte{{0}}, []byte{1, 0}},
		{[][]byte{[]byte("ab"), nil, []byte("c")}, []byte{2, 'a', 'b', 0, 1, 'c'}},
		{[][]byte{long, {9}}, append(append([]byte{200, 1}, long...), 1, 9)},
	} {
		b := Pack(c.parts...)
		if !bytes.Equal(b, c.want) {
			t.Errorf("Pack(%v) = %v; want %v", c.parts, b, c.want)
		}
		parts, e := Unpack(b)
		if e != api.OK || !sameParts(parts, c.parts) {
			t.Errorf("Unpack(%v) = %v, %d; want %v", b, parts, e, c.parts)
		}
	}
}

func sameParts(a, b [][]byte) bool {
	if len(a) != len(b) {
		return false
	}
	for i := range a {
		if !bytes.Equal(a[i], b[i]) {
			return false
		}
	}
	return true
}

func TestUnpackNothing(t *testing.T) { // P1.3: the Pack of no parts at all
	for _, b := range [][]byte{nil, {}} {
		parts, e := Unpack(b)
		if e != api.OK || len(parts) != 0 {
			t.Errorf("Unpack of no bytes: %v, %d", parts, e)
		}
	}
	if b := Pack(); len(b) != 0 {
		t.Errorf("Pack() = %v", b)
	}
}

func TestUnpackRefuses(t *testing.T) { // P1.3
	for _, b := range [][]byte{
		{1},
		{2, 'a'},
		{0, 0, 1},
		{1, 'a', 2, 'b'},
		{128},
		{128, 0},
		{0, 128, 0},
		{129, 0, 'a'},
		{255, 255, 255, 255, 7},
		{255, 255, 255, 255, 8, 1},
		roomy([]byte{2, 'a'}),
	} {
		parts, e := Unpack(b)
		if e != api.ErrOctet || len(parts) != 0 {
			t.Errorf("Unpack(%v) = %v, %d; want ErrOctet alone", b, parts, e)
		}
	}
}

func TestUnpackIsPackTurnedRound(t *testing.T) { // P1.3: unlike lists, unlike Packs
	letters := []byte{0, 1, 2, 3, 127, 128, 129, 255}
	for size := range 7 {
		for i := range 1 << (3 * size) {
			b := make([]byte, size)
			for k := range b {
				b[k] = letters[i>>(3*k)&7]
			}
			parts, e := Unpack(b)
			if e == api.OK && !bytes.Equal(Pack(parts...), b) {
				t.Fatalf("Unpack(%v) = %v, whose Pack is another", b, parts)
			}
		}
	}
}

func TestArgumentsStay(t *testing.T) {
	want := []byte{2, 'a', 'b', 1, 'c'}
	b := roomy(want)
	GetInt(b, 0)
	GetBytes(b, 0, 9)
	Unpack(b)
	Bytes(b)
	Pack(b, b[:2])
	if wasWritten(b, want) {
		t.Errorf("what was handed in is %v now, spare room %v", b, b[len(b):cap(b)])
	}
}

func TestAnswersAreNewMemory(t *testing.T) {
	want := []byte{2, 'a', 'b', 0, 1, 'c'}
	b := roomy(want)
	for at := range 4 {
		if p, _, e := GetBytes(b, at, 9); e == api.OK {
			fill(p, 9)
		}
	}
	fill(Bytes(b), 9)
	fill(Pack(b), 9)
	fill(Pack(b, b), 9)
	parts, _ := Unpack(b)
	for i, p := range parts {
		fill(p, byte('p'+i))
	}
	if wasWritten(b, want) {
		t.Errorf("writes into answers reached what was handed in: %v, spare room %v", b, b[len(b):cap(b)])
	}
	if !sameParts(parts, [][]byte{[]byte("pp"), nil, []byte("r")}) {
		t.Errorf("parts of one answer share memory: %q", parts)
	}
}

func TestArgumentsAreNotKept(t *testing.T) {
	b := roomy([]byte{2, 'a', 'b'})
	p, _, _ := GetBytes(b, 0, 9)
	parts, _ := Unpack(b)
	packed, text := Pack(b[1:]), Bytes(b[1:])
	fill(b, 9)
	if string(p) != "ab" || len(parts) != 1 || string(parts[0]) != "ab" {
		t.Errorf("what was read changed with what was handed in: %q, %q", p, parts)
	}
	if string(packed) != "\x02ab" || string(text) != "\x02ab" {
		t.Errorf("what was written changed with what was handed in: %q, %q", packed, text)
	}
}
