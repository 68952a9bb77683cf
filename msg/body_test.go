package msg

import (
	"bytes"
	"encoding/binary"
	"math"
	"testing"

	"catenary/api"
)

// wantBody writes a request's body without the package.
func wantBody(r api.Req) []byte {
	out := binary.LittleEndian.AppendUint64(nil, uint64(r.Client))
	out = binary.LittleEndian.AppendUint64(out, uint64(r.Stamp))
	for _, text := range [][]byte{r.Op, r.Sig} {
		out = append(binary.AppendUvarint(out, uint64(len(text))), text...)
	}
	return out
}

// unlike are requests no two of which are the same; many of them part only in how Op and Sig are cut.
func unlike() []api.Req {
	var out []api.Req
	numbers := []int{math.MinInt, math.MinInt + 1, -1 << 32, -256, -2, -1, 0, 1, 2, 127, 128, 255, 256, api.MaxInt, api.MaxInt + 1, 1<<32 - 1, 1 << 32, 1<<56 + 1, math.MaxInt - 1, math.MaxInt}
	for _, client := range numbers {
		for _, stamp := range numbers {
			out = append(out, api.Req{Client: client, Stamp: stamp}, api.Req{Client: client, Stamp: stamp, Op: []byte{1}, Sig: []byte{2}})
		}
	}
	for _, text := range []string{"abc", "\x00", "\x00\x00", "\x01\x01\x01", "\x01a\x01b", "\x02\x01a", "\x00\x00\x00\x00\x00\x00\x00\x00"} {
		for cut := range len(text) + 1 {
			out = append(out, api.Req{Client: 7, Stamp: 8, Op: []byte(text[:cut]), Sig: []byte(text[cut:])})
		}
	}
	for _, n := range []int{126, 127, 128, 129, 16383, 16384, api.MaxOp, api.MaxData, api.MaxData + 1, 1 << 21} {
		out = append(out, api.Req{Client: 9, Op: make([]byte, n)}, api.Req{Client: 9, Sig: make([]byte, n)}, api.Req{Client: 9, Op: make([]byte, n), Sig: make([]byte, n)})
	}
	return out
}

func TestBodyWrittenOut(t *testing.T) { // P5.3
	for _, c := range []struct {
		r    api.Req
		want []byte
	}{
		{api.Req{}, make([]byte, 18)},
		{api.Req{Op: []byte{}, Sig: []byte{}}, make([]byte, 18)},
		{api.Req{Client: 1, Stamp: 2, Op: ab, Sig: onlyC}, []byte{1, 0, 0, 0, 0, 0, 0, 0, 2, 0, 0, 0, 0, 0, 0, 0, 2, 'a', 'b', 1, 'c'}},
		{api.Req{Client: 0x0807060504030201, Stamp: 0x1122334455667788}, []byte{1, 2, 3, 4, 5, 6, 7, 8, 0x88, 0x77, 0x66, 0x55, 0x44, 0x33, 0x22, 0x11, 0, 0}},
		{api.Req{Client: -1, Stamp: -2, Op: []byte{7}}, []byte{255, 255, 255, 255, 255, 255, 255, 255, 254, 255, 255, 255, 255, 255, 255, 255, 1, 7, 0}},
		{api.Req{Client: math.MinInt, Stamp: math.MaxInt, Sig: []byte{7}}, []byte{0, 0, 0, 0, 0, 0, 0, 128, 255, 255, 255, 255, 255, 255, 255, 127, 0, 1, 7}},
		{api.Req{Client: math.MaxInt, Stamp: math.MinInt}, []byte{255, 255, 255, 255, 255, 255, 255, 127, 0, 0, 0, 0, 0, 0, 0, 128, 0, 0}},
		{api.Req{Client: api.MaxInt + 1, Stamp: 300}, []byte{0, 0, 0, 128, 0, 0, 0, 0, 44, 1, 0, 0, 0, 0, 0, 0, 0, 0}},
	} {
		if got := Body(c.r); !bytes.Equal(got, c.want) {
			t.Errorf("Body(%v) = %v; want %v", c.r, got, c.want)
		}
	}
}

func TestBody(t *testing.T) { // P5.3
	seen := map[string]int{}
	for i, r := range unlike() {
		got := Body(r)
		if want := wantBody(r); !bytes.Equal(got, want) {
			t.Errorf("Body of request %d: %v; want %v", i, short(got), short(want))
		}
		if j, twice := seen[string(got)]; twice {
			t.Errorf("requests %d and %d have one body", j, i)
		}
		seen[string(got)] = i
	}
}
