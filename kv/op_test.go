package kv

import (
	"bytes"
	"slices"
	"testing"

	"catenary/api"
)

// The sections Types and Errors: the kinds, the codes, the error.
func TestNumbers(t *testing.T) {
	for i, kind := range []int{api.OpGet, api.OpPut, api.OpCas, api.OpDelete, api.OpAcquire, api.OpRenew, api.OpRelease, api.OpHolder} {
		if kind != i+1 {
			t.Errorf("kind %d is %d", i+1, kind)
		}
	}
	for i, code := range []int{api.Yes, api.Missing, api.Differs, api.Full, api.Held, api.Bad, api.Old} {
		if code != i {
			t.Errorf("code %d is %d", i, code)
		}
	}
	if int(api.ErrOp) != 71 || api.ErrOp.Error() != "error 71" {
		t.Errorf("ErrOp is %d and reads %q", int(api.ErrOp), api.ErrOp.Error())
	}
}

func TestWrittenOut(t *testing.T) { // P7.1
	n := []byte("ab")
	for _, c := range []struct {
		o    api.Op
		want []byte
	}{
		{api.Op{Kind: api.OpGet, Name: n}, []byte{1, 2, 'a', 'b', 0, 0, 0}},
		{api.Op{Kind: api.OpPut, Name: n, A: []byte("x")}, []byte{2, 2, 'a', 'b', 1, 'x', 0, 0}},
		{api.Op{Kind: api.OpPut, Name: n}, []byte{2, 2, 'a', 'b', 0, 0, 0}},
		{api.Op{Kind: api.OpCas, Name: n, A: []byte("x"), B: []byte("yz")}, []byte{3, 2, 'a', 'b', 1, 'x', 2, 'y', 'z', 0}},
		{api.Op{Kind: api.OpCas, Name: n, B: []byte("yz")}, []byte{3, 2, 'a', 'b', 0, 2, 'y', 'z', 0}},
		{api.Op{Kind: api.OpDelete, Name: n}, []byte{4, 2, 'a', 'b', 0, 0, 0}},
		{api.Op{Kind: api.OpAcquire, Name: n, Num: 300}, []byte{5, 2, 'a', 'b', 0, 0, 172, 2}},
		{api.Op{Kind: api.OpRenew, Name: n, Num: 127}, []byte{6, 2, 'a', 'b', 0, 0, 127}},
		{api.Op{Kind: api.OpRelease, Name: n}, []byte{7, 2, 'a', 'b', 0, 0, 0}},
		{api.Op{Kind: api.OpHolder, Name: []byte{0}}, []byte{8, 1, 0, 0, 0, 0}},
	} {
		if b, e := Write(c.o); e != api.OK || !bytes.Equal(b, c.want) {
			t.Errorf("Write(%v) = %v, %v; want %v", c.o, b, e, c.want)
		}
		if o, e := Read(c.want); e != api.OK || !sameOp(o, c.o) {
			t.Errorf("Read(%v) = %v, %v; want %v", c.want, o, e, c.o)
		}
	}
}

func TestKinds(t *testing.T) { // P7.1
	for _, kind := range kinds {
		takes(t, least(kind))
		takes(t, most(kind))
	}
	for _, kind := range noKinds {
		refuses(t, api.Op{Kind: kind})
		for _, like := range kinds {
			small, great := least(like), most(like)
			small.Kind, great.Kind = kind, kind
			refuses(t, small)
			refuses(t, great)
		}
	}
}

func TestNames(t *testing.T) { // P7.1
	for _, kind := range kinds {
		for _, o := range []api.Op{least(kind), most(kind)} {
			for _, size := range sizes {
				o.Name = text(size)
				takesIf(t, 1 <= size && size <= 16, o)
			}
			o.Name = nil
			refuses(t, o)
			o.Name = []byte{}
			refuses(t, o)
			for x := range 256 {
				o.Name = []byte{byte(x)}
				takes(t, o)
				o.Name = []byte{'a', byte(x), 0, 255}
				takes(t, o)
			}
		}
	}
}

func TestValues(t *testing.T) { // P7.1
	for _, kind := range kinds {
		for _, o := range []api.Op{least(kind), most(kind)} {
			for _, size := range sizes {
				other := o
				other.A = text(size)
				takesIf(t, size == 0 || size <= 64 && (kind == 2 || kind == 3), other)
				other = o
				other.B = text(size)
				takesIf(t, size == 0 || size <= 64 && kind == 3, other)
			}
			o.A, o.B = []byte{}, []byte{}
			takes(t, o)
		}
	}
}

func TestNums(t *testing.T) { // P7.1
	for _, kind := range kinds {
		for _, o := range []api.Op{least(kind), most(kind)} {
			for _, n := range nums {
				o.Num = n
				if kind == 5 || kind == 6 {
					takesIf(t, 1 <= n && n <= 1000, o)
				} else {
					takesIf(t, n == 0, o)
				}
			}
		}
	}
}

func TestFieldsTogether(t *testing.T) { // P7.1: one wrong field is enough, whatever the others are
	for kind := range 10 {
		for _, name := range []int{0, 1, 16, 17} {
			for _, a := range []int{0, 1, 64, 65} {
				for _, b := range []int{0, 1, 64, 65} {
					for _, num := range []int{-1, 0, 1, 1000, 1001} {
						wrong := kind == 0 || kind == 9 || name == 0 || name == 17 || a == 65 || b == 65
						wrong = wrong || a > 0 && kind != 2 && kind != 3
						wrong = wrong || b > 0 && kind != 3
						if kind == 5 || kind == 6 {
							wrong = wrong || num < 1 || num > 1000
						} else {
							wrong = wrong || num != 0
						}
						takesIf(t, !wrong, api.Op{Kind: kind, Name: text(name), A: text(a), B: text(b), Num: num})
					}
				}
			}
		}
	}
}

// written are bytes of operations of all kinds.
func written() []spelling {
	var out []spelling
	for _, kind := range kinds {
		out = append(out, spell(least(kind)), spell(most(kind)))
	}
	return out
}

func TestReadCutOff(t *testing.T) { // P7.1
	refusesBytes(t, nil)
	refusesBytes(t, []byte{})
	for _, s := range written() {
		for k := range s.b {
			refusesBytes(t, slices.Clip(bytes.Clone(s.b[:k])))
			// Spare room isn't part of what is handed in.
			refusesBytes(t, s.b[:k])
			refusesBytes(t, s.b[k+1:])
		}
	}
}

func TestReadMoreBehind(t *testing.T) { // P7.1
	for _, s := range written() {
		for _, behind := range [][]byte{{0}, {1}, {127}, {128}, {255}, {0, 0}, s.b, make([]byte, 1000)} {
			refusesBytes(t, slices.Concat(s.b, behind))
		}
		refusesBytes(t, slices.Concat([]byte{0}, s.b))
	}
}

func TestReadOtherNumbers(t *testing.T) { // P7.1: each number in a longer way than Write's, or above MaxInt
	for _, s := range written() {
		for _, at := range s.numbers {
			end := at
			for s.b[end] >= 128 {
				end++
			}
			for _, zeros := range [][]byte{{0}, {128, 0}, {128, 128, 0}, {128, 128, 128, 0}, {128, 128, 128, 128, 0}, bytes.Repeat([]byte{128}, 9)} {
				refusesBytes(t, slices.Concat(s.b[:end], []byte{s.b[end] + 128}, zeros, s.b[end+1:]))
			}
			for _, above := range [][]byte{{128, 128, 128, 128, 8}, {255, 255, 255, 255, 15}, {128, 128, 128, 128, 16}, {129, 128, 128, 128, 128, 1}, bytes.Repeat([]byte{255}, 10)} {
				refusesBytes(t, slices.Concat(s.b[:at], above, s.b[end+1:]))
			}
		}
	}
}

// onlyItsOwn asks that bytes which are read are those that their operation is written with, and tells whether they were read.
func onlyItsOwn(t *testing.T, b []byte) bool {
	t.Helper()
	o, e := Read(b)
	if e == api.ErrOp {
		if !sameOp(o, api.Op{}) {
			t.Errorf("Read(%v) = %v beside ErrOp", b, o)
		}
		return false
	}
	if again, f := Write(o); e != api.OK || f != api.OK || !bytes.Equal(again, b) {
		t.Errorf("Read(%v) = %v, %v; Write of that: %v, %v", b, o, e, again, f)
	}
	return true
}

func TestReadShortBytes(t *testing.T) { // P7.1
	letters := []byte{0, 1, 2, 3, 4, 5, 8, 9, 128, 255}
	read := make([]int, 8)
	for size := range read {
		b := make([]byte, size)
		var fill func(at int)
		fill = func(at int) {
			if at == size {
				if onlyItsOwn(t, b) {
					read[size]++
				}
				return
			}
			for _, x := range letters {
				b[at] = x
				fill(at + 1)
			}
		}
		// Of seven bytes there are too many to go through them all: the first one is a kind with A and B.
		if size == 7 {
			b[0] = 3
			fill(1)
		} else {
			fill(0)
		}
	}
	// Of six bytes: kinds 1 to 4 and 8 with a Name of one letter, kind 5 with seven Nums too. Of seven, of kind 3: a Name of two letters, or one with an A or a B of one.
	want := []int{0, 0, 0, 0, 0, 0, 5*10 + 7*10, 3 * 100}
	if !slices.Equal(read, want) {
		t.Errorf("of the short bytes %v are operations; want %v", read, want)
	}
}

func TestReadChangedBytes(t *testing.T) { // P7.1
	for _, s := range written() {
		was, _ := Read(s.b)
		for at := range s.b {
			b := bytes.Clone(s.b)
			for x := range 256 {
				b[at] = byte(x)
				if onlyItsOwn(t, b) && byte(x) != s.b[at] {
					if o, _ := Read(b); sameOp(o, was) {
						t.Errorf("Read(%v) and Read(%v) are the same", b, s.b)
					}
				}
			}
		}
	}
}

func FuzzRead(f *testing.F) { // P7.1
	for _, s := range written() {
		f.Add(s.b)
	}
	f.Fuzz(func(t *testing.T, b []byte) { onlyItsOwn(t, b) })
}
