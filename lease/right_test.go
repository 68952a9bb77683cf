package lease

import (
	"bytes"
	"slices"
	"testing"

	"catenary/api"
)

func isRight(t *testing.T, what string, l []api.Lease, want bool) {
	t.Helper()
	if Right(l) != want {
		t.Errorf("Right of %s is %v: %v", what, !want, l)
	}
}

// named are leases of some Names, all else of them right.
func named(names ...string) []api.Lease {
	var l []api.Lease
	for i, name := range names {
		// Owners and Untils don't rise.
		l = append(l, lease(name, 4-i%4, 100-i%7))
	}
	return l
}

func TestRightNames(t *testing.T) { // P8.1
	isRight(t, "nothing", nil, true)
	isRight(t, "nothing", []api.Lease{}, true)
	for _, l := range [][]api.Lease{
		named("a"),
		named("a", "b"),
		named("a", "b", "c"),
		named("aa", "b"),
		named("a", "a\x00", "a\x00\x00", "a\x01", "aa", "ab", "b"),
		named("\x00", "\x00\x00", "\x7f", "\x80", "\xff", "\xff\xff"),
		named("Z", "a", "\xc3\xa4", "\xff"),
	} {
		isRight(t, "rising Names", l, true)
	}
	for _, l := range [][]api.Lease{
		named("b", "a"),
		named("a", "a"),
		{lease("a", 1, 8), lease("a", 1, 8)},
		{lease("a", 1, 8), lease("a", 2, 9)},
		named("b", "aa"),
		named("aa", "a"),
		named("a\x00", "a"),
		named("\x80", "\x7f"),
		named("\xff", "\x00"),
		named("a", "c", "b", "d"),
		named("a", "b", "a"),
		named("a", "b", "b"),
		named("b", "b", "c"),
		named(""),
		named("", "a"),
		named("a", ""),
		named("", ""),
		{{Owner: 1, Until: 1}},
		{{}},
	} {
		isRight(t, "Names that don't rise, or an empty one", l, false)
	}
}

func TestRightCount(t *testing.T) { // P8.1
	for many := range 40 {
		isRight(t, "many", row(many, 1), many <= 16)
	}
	isRight(t, "very many", slices.Repeat(named("a"), 100000), false)
	// Spare room isn't counted.
	isRight(t, "many with more behind", row(40, 1)[:16], true)
}

func TestRightFields(t *testing.T) { // P8.1: at each place
	for _, many := range []int{1, 2, 3, 16} {
		for at := range many {
			for _, size := range []int{0, 1, 2, 3, 15, 16, 17, 18, 31, 32, 64, 127, 128, 256, 272, 1000} {
				l := row(many, 1)
				// A longer Name of the same beginning rises still.
				l[at].Name = append([]byte(letters(2*at)), text(max(size, 2)-2)...)[:size]
				isRight(t, "a Name of some size", l, 2 <= size && size <= 16 || size == 1 && at == 0)
			}
			for owner := 1; owner <= 4; owner++ {
				l := row(many, 1)
				l[at].Owner = owner
				isRight(t, "an Owner", l, true)
			}
			for _, owner := range noClients {
				l := row(many, 1)
				l[at].Owner = owner
				isRight(t, "an Owner who is no client", l, false)
			}
			for _, until := range []int{1, 2, 255, 256, 1000000, lastNow, 2147483646, 2147483647} {
				l := row(many, 1)
				l[at].Until = until
				isRight(t, "an Until", l, true)
			}
			for _, until := range noUntils {
				l := row(many, 1)
				l[at].Until = until
				isRight(t, "an Until that is none", l, false)
			}
		}
	}
}

func TestRightPlaces(t *testing.T) { // P8.1: two neighbours that don't rise are enough, wherever they are
	for _, many := range []int{2, 3, 16} {
		for at := 1; at < many; at++ {
			l := row(many, 1)
			l[at].Name = bytes.Clone(l[at-1].Name)
			isRight(t, "one Name twice", l, false)
			l = row(many, 1)
			l[at], l[at-1] = l[at-1], l[at]
			isRight(t, "two turned round", l, false)
			l = row(many, 1)
			l[at].Name = nil
			isRight(t, "an empty Name", l, false)
		}
	}
}
