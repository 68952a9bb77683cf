package kv

import (
	"bytes"
	"slices"
	"testing"

	"catenary/api"
)

func isRight(t *testing.T, what string, l []api.Entry, want bool) {
	t.Helper()
	if Right(l) != want {
		t.Errorf("Right of %s is %v: %.200q", what, !want, l)
	}
}

func TestRight(t *testing.T) { // P7.2
	for _, l := range [][]api.Entry{
		nil,
		{},
		entries("a", ""),
		entries("a", "", "b", ""),
		entries("a", "2", "b", "1", "c", "1"),
		entries("aa", "", "b", ""),
		entries("a", "", "a\x00", "", "a\x00\x00", "", "a\x01", "", "aa", "", "ab", "", "b", ""),
		entries("\x00", "", "\x00\x00", "", "\x7f", "", "\x80", "", "\xff", "", "\xff\xff", ""),
		entries("Z", "", "a", "", "\xc3\xa4", "", "\xff", ""),
	} {
		isRight(t, "rising Names", l, true)
	}
	for _, l := range [][]api.Entry{
		entries("b", "", "a", ""),
		entries("a", "1", "a", "1"),
		entries("a", "1", "a", "2"),
		entries("b", "", "aa", ""),
		entries("aa", "", "a", ""),
		entries("a\x00", "", "a", ""),
		entries("\x80", "", "\x7f", ""),
		entries("\xff", "", "\x00", ""),
		entries("a", "", "c", "", "b", "", "d", ""),
		entries("a", "", "b", "", "a", ""),
		entries("a", "", "b", "", "b", ""),
		entries("b", "", "b", "", "c", ""),
		entries("", ""),
		entries("", "", "a", ""),
		entries("a", "", "", ""),
		entries("", "", "", ""),
		{{Name: []byte{}, Value: nil}},
	} {
		isRight(t, "Names that don't rise, or an empty one", l, false)
	}
}

func TestRightCount(t *testing.T) { // P7.2
	for many := range 70 {
		isRight(t, "many", row(many), many <= 64)
	}
	isRight(t, "very many", slices.Repeat(entries("a", ""), 100000), false)
	// Spare room isn't counted.
	isRight(t, "many with more behind", row(70)[:64], true)
}

func TestRightSizes(t *testing.T) { // P7.2: at each place
	for _, many := range []int{1, 2, 3, 64} {
		for at := range many {
			for _, size := range sizes {
				l := row(many)
				// A longer Name of the same beginning rises still.
				l[at].Name = append(letter(2*at), text(max(size, 2)-2)...)[:size]
				isRight(t, "a Name of some size", l, 2 <= size && size <= 16 || size == 1 && at == 0)
				l = row(many)
				l[at].Value = text(size)
				isRight(t, "a Value of some size", l, size <= 64)
			}
		}
	}
}

func TestRightPlaces(t *testing.T) { // P7.2: two neighbours that don't rise are enough, wherever they are
	for _, many := range []int{2, 3, 64} {
		for at := 1; at < many; at++ {
			l := row(many)
			l[at].Name = bytes.Clone(l[at-1].Name)
			isRight(t, "one Name twice", l, false)
			l = row(many)
			l[at], l[at-1] = l[at-1], l[at]
			isRight(t, "two turned round", l, false)
			l = row(many)
			l[at].Name = nil
			isRight(t, "an empty Name", l, false)
		}
	}
}
