package sha

import (
	"bytes"
	"crypto/sha256"
	"encoding"
	"encoding/binary"
	"encoding/hex"
	"hash"
	"strings"
	"testing"
)

// edges are the lengths at which the padding changes its form, and some of several blocks.
var edges = []int{0, 1, 2, 3, 54, 55, 56, 57, 62, 63, 64, 65, 66, 118, 119, 120, 121, 127, 128, 129, 183, 184, 191, 192, 193, 255, 256, 257, 1000, 4096}

// letters makes a text whose blocks are all unlike.
func letters(size int) []byte {
	b := make([]byte, size)
	for i := range b {
		b[i] = byte(i*7 + i>>6)
	}
	return b
}

// check asks that a hash is that of a text, by the library's own SHA-256.
func check(t *testing.T, what string, got, text []byte) {
	t.Helper()
	want := sha256.Sum256(text)
	if !bytes.Equal(got, want[:]) {
		t.Errorf("%s, %d bytes: %x; want %x", what, len(text), got, want)
	}
}

// roomy answers a list with the same bytes and spare room that is filled with 'x'.
func roomy(b []byte) []byte {
	all := append(append(make([]byte, 0, len(b)+200), b...), bytes.Repeat([]byte{'x'}, 200)...)
	return all[:len(b)]
}

// wasWritten tells whether a list of roomy isn't what it was, spare room included.
func wasWritten(got, want []byte) bool {
	spare := got[len(got):cap(got)]
	return !bytes.Equal(got, want) || len(bytes.Trim(spare, "x")) != 0
}

// fill writes over a list and its spare room.
func fill(b []byte, with byte) {
	b = b[:cap(b)]
	for i := range b {
		b[i] = with
	}
}

func TestSumOfKnownTexts(t *testing.T) { // P2.1
	for _, c := range []struct{ text, want string }{
		{"", "e3b0c44298fc1c149afbf4c8996fb92427ae41e4649b934ca495991b7852b855"},
		{"abc", "ba7816bf8f01cfea414140de5dae2223b00361a396177a9cb410ff61f20015ad"},
		{"abcdbcdecdefdefgefghfghighijhijkijkljklmklmnlmnomnopnopq", "248d6a61d20638b8e5c026930c3e6039a33ce45964ff2167f6ecedd419db06c1"},
		{"abcdefghbcdefghicdefghijdefghijkefghijklfghijklmghijklmnhijklmnoijklmnopjklmnopqklmnopqrlmnopqrsmnopqrstnopqrstu", "cf5b16a778af8380036ce59e7b0492370b249b11e8f07a51afac45037afee9d1"},
		{strings.Repeat("a", 1000000), "cdc76e5c9914fb9281a1c7e284d73e67f1809a48a497200e046d39ccc7112cd0"},
	} {
		if got := hex.EncodeToString(Sum([]byte(c.text))); got != c.want {
			t.Errorf("Sum of %.9q: %s; want %s", c.text, got, c.want)
		}
	}
}

func TestSumOfNothing(t *testing.T) { // P2.1: nil and empty are one
	check(t, "nil", Sum(nil), nil)
	check(t, "empty", Sum([]byte{}), nil)
	check(t, "empty with spare room", Sum(roomy(nil)), nil)
}

func TestSumOfEachLength(t *testing.T) { // P2.1
	for size := range 400 {
		check(t, "Sum", Sum(letters(size)), letters(size))
	}
	for _, size := range []int{1 << 13, 1<<16 - 1, 1 << 16, 1<<16 + 1, 1<<21 + 9} {
		check(t, "Sum", Sum(letters(size)), letters(size))
	}
}

func TestSumOfPlainBytes(t *testing.T) { // P2.1: the stop and the zeros aren't taken for the text's own
	for _, size := range edges {
		for _, with := range []byte{0, 1, 127, 128, 255} {
			b := bytes.Repeat([]byte{with}, size)
			check(t, "Sum", Sum(b), b)
		}
	}
	if bytes.Equal(Sum(nil), Sum([]byte{128})) || bytes.Equal(Sum([]byte{5}), Sum([]byte{5, 0})) {
		t.Error("unlike texts have one Sum")
	}
}

// libraryAfter: the library's hash in the beginning's state, with a size as if so many bytes had gone by.
func libraryAfter(t *testing.T, size uint64) hash.Hash {
	t.Helper()
	h := sha256.New()
	form, err := h.(encoding.BinaryMarshaler).MarshalBinary()
	if err != nil {
		t.Fatal(err)
	}
	binary.BigEndian.PutUint64(form[len(form)-8:], size)
	if err := h.(encoding.BinaryUnmarshaler).UnmarshalBinary(form); err != nil {
		t.Fatal(err)
	}
	return h
}

func TestNumberOfBitsOfGreatTexts(t *testing.T) { // P2.1: it has 8 bytes; such texts take too long to write
	for _, size := range []uint64{1 << 13, 1 << 21, 1 << 29, 1 << 31, 1 << 37, 1 << 45, 1 << 53, 0x0102030405060740} {
		mine, other := New(), libraryAfter(t, size)
		mine.size = size
		mine.Write([]byte("abc"))
		other.Write([]byte("abc"))
		if got, want := mine.Sum(), other.Sum(nil); !bytes.Equal(got, want) {
			t.Errorf("%d bytes ahead: %x; want %x", size, got, want)
		}
	}
}

func TestNewIsOfNothing(t *testing.T) { // P2.2
	check(t, "New", New().Sum(), nil)
}

func TestWriteOfNothing(t *testing.T) { // P2.2
	h := New()
	h.Write()
	h.Write(nil)
	h.Write([]byte{}, nil, roomy(nil))
	h.Write([][]byte{}...)
	check(t, "nothing", h.Sum(), nil)
	h.Write([]byte("ab"))
	h.Write()
	h.Write(nil, nil)
	h.Write(nil, []byte("c"), []byte{})
	check(t, "something among nothing", h.Sum(), []byte("abc"))
}

func TestWriteAtOnce(t *testing.T) { // P2.2
	for _, size := range edges {
		h := New()
		h.Write(letters(size))
		check(t, "Write", h.Sum(), letters(size))
	}
}

func TestWriteInTwo(t *testing.T) { // P2.2
	for _, size := range edges {
		if size > 300 {
			continue
		}
		text := letters(size)
		for cut := range size + 1 {
			one, two := New(), New()
			one.Write(text[:cut], text[cut:])
			two.Write(text[:cut])
			two.Write(text[cut:])
			check(t, "two pieces", one.Sum(), text)
			check(t, "two Writes", two.Sum(), text)
		}
	}
}

// cutInto cuts a text into pieces of a size, the last one maybe smaller.
func cutInto(text []byte, size int) [][]byte {
	var parts [][]byte
	for len(text) > size {
		parts = append(parts, text[:size])
		text = text[size:]
	}
	return append(parts, text)
}

func TestWriteInManyPieces(t *testing.T) { // P2.2
	for _, size := range edges {
		text := letters(size)
		for _, piece := range []int{1, 2, 3, 7, 55, 56, 63, 64, 65, 119, 120, 128, 200} {
			parts := cutInto(text, piece)
			one, each, among := New(), New(), New()
			one.Write(parts...)
			for _, p := range parts {
				each.Write(p)
				among.Write(nil, p, []byte{})
				among.Write()
			}
			check(t, "pieces of one Write", one.Sum(), text)
			check(t, "a Write a piece", each.Sum(), text)
			check(t, "pieces among empty ones", among.Sum(), text)
		}
	}
}

func TestWriteGrowingPieces(t *testing.T) { // P2.2
	h := New()
	var all []byte
	for size := range 200 {
		h.Write(letters(size), letters(size/3))
		all = append(append(all, letters(size)...), letters(size/3)...)
		check(t, "growing pieces", h.Sum(), all)
	}
}

func TestPiecesAreInOrder(t *testing.T) { // P2.2: one behind the other
	h := New()
	h.Write([]byte("a"), []byte("b"))
	h.Write([]byte("c"), []byte("d"), []byte("e"))
	check(t, "Write", h.Sum(), []byte("abcde"))
}

func TestSumMayGoOn(t *testing.T) { // P2.2
	text := letters(300)
	h := New()
	for i := range text {
		for range 3 {
			check(t, "Sum between Writes", h.Sum(), text[:i])
		}
		h.Write(text[i : i+1])
	}
	check(t, "Sum behind all", h.Sum(), text)
}

func TestSumAtEdgesGoesOn(t *testing.T) { // P2.2
	for _, size := range edges {
		for _, then := range edges {
			text := letters(size + then)
			h := New()
			h.Write(text[:size])
			first := h.Sum()
			h.Write(text[size:])
			check(t, "Sum ahead", first, text[:size])
			check(t, "Sum behind", h.Sum(), text)
		}
	}
}

func TestTwoHashesAtOnce(t *testing.T) { // P2.2
	one, two := New(), New()
	var first, second []byte
	for i := range 90 {
		p, q := bytes.Repeat([]byte{'p'}, i), bytes.Repeat([]byte{'q'}, 2*i+1)
		one.Write(p)
		two.Write(q)
		first, second = append(first, p...), append(second, q...)
		check(t, "the first", one.Sum(), first)
		check(t, "the second", two.Sum(), second)
		check(t, "Sum of other bytes", Sum([]byte("abc")), []byte("abc"))
	}
	check(t, "a new one", New().Sum(), nil)
}

func TestArgumentsStay(t *testing.T) {
	for _, size := range edges {
		want := letters(size)
		b := roomy(want)
		Sum(b)
		h := New()
		h.Write(b, b[:size/2], b)
		h.Sum()
		h.Write(b)
		h.Sum()
		if wasWritten(b, want) {
			t.Errorf("%d bytes that were handed in were written over, or their spare room", size)
		}
	}
	parts := make([][]byte, 2, 4)
	parts[0], parts[1] = []byte("ab"), []byte("c")
	New().Write(parts...)
	all := parts[:4]
	if string(all[0]) != "ab" || string(all[1]) != "c" || all[2] != nil || all[3] != nil {
		t.Errorf("the list of pieces is %q now", all)
	}
}

func TestArgumentsAreNotKept(t *testing.T) {
	for _, size := range edges {
		want := letters(size)
		b := roomy(want)
		sum := Sum(b)
		h := New()
		h.Write(b)
		parts := [][]byte{b, b}
		h.Write(parts...)
		clear(parts)
		fill(b, 9)
		check(t, "Sum", sum, want)
		check(t, "Write", h.Sum(), bytes.Repeat(want, 3))
	}
}

func TestAnswersAreNewMemory(t *testing.T) {
	text := letters(100)
	fill(Sum(text), 9)
	check(t, "Sum behind a write into its earlier answer", Sum(text), text)
	h := New()
	h.Write(text[:70])
	one, two := h.Sum(), h.Sum()
	fill(one, 9)
	check(t, "the other answer", two, text[:70])
	fill(two, 9)
	check(t, "Sum again", h.Sum(), text[:70])
	h.Write(text[70:])
	check(t, "Sum behind more", h.Sum(), text)
	if !bytes.Equal(one, bytes.Repeat([]byte{9}, 32)) {
		t.Error("a later call wrote into an earlier answer")
	}
}
