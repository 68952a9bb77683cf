package fetch

import (
	"fmt"
	"math/rand"
	"slices"
	"testing"

	"catenary/api"
)

func TestExample(t *testing.T) { // P20.3: n = 4: two replicas tell the same two pieces: Ready
	f := wanting(4, 8)
	takes(t, "one", f, tell(8, 3, "a", "b")...)
	isntReady(t, "one", f)
	takes(t, "a piece of two", f, piece(8, 1, 1, 2, "b"))
	isntReady(t, "a piece of two", f)
	takes(t, "two", f, piece(8, 1, 0, 2, "a"))
	isReady(t, "two", f, "ab")
}

func TestWeak(t *testing.T) { // P20.3: fewer than Weak, just so many, and more, from each replica on
	for _, n := range rightNs {
		for first := range n {
			f := wanting(n, 8)
			isntReady(t, "none", f)
			for i := range n {
				what := fmt.Sprintf("%d of %d from %d on", i+1, n, first)
				takes(t, what, f, tell(8, (first+i)%n, "a", "", "b")...)
				if i+1 < weak(n) {
					isntReady(t, what, f)
				} else {
					isReady(t, what, f, "ab")
				}
			}
		}
	}
}

func TestWeakOfOneState(t *testing.T) { // P20.3: tellers of other states don't count, however many there are
	for _, n := range rightNs {
		f, w := wanting(n, 8), weak(n)
		for who := range n {
			takes(t, "unlike states", f, tell(8, who, "a", fmt.Sprint(who/(w-1)))...)
			isntReady(t, "unlike states", f)
		}
		f = wanting(n, 8)
		for who := range n - w {
			takes(t, "liars", f, tell(8, who, fmt.Sprint(who))...)
		}
		for who := n - w; who < n; who++ {
			isntReady(t, "too few", f)
			takes(t, "the others", f, tell(8, who, "a")...)
		}
		isReady(t, "just enough", f, "a")
	}
}

func TestOtherPieces(t *testing.T) { // P20.3: the same bytes, cut into other pieces
	ways := [][]string{{"abc"}, {"a", "bc"}, {"ab", "c"}, {"a", "b", "c"}, {"", "abc"}, {"abc", ""}, {"", "a", "", "bc", ""}, append([]string{"abc"}, make([]string, most-1)...)}
	for i, one := range ways {
		for j, other := range ways {
			f, what := wanting(4, 8), fmt.Sprintf("%q and %q", one, other)
			takes(t, what, f, tell(8, 2, one...)...)
			isntReady(t, what, f)
			takes(t, what, f, tell(8, 1, other...)...)
			isReady(t, what, f, "abc")
			if i != j {
				takes(t, what, f, tell(8, 0, "ab", "d")...)
				isReady(t, what, f, "abc")
			}
		}
	}
}

func TestUnlikeBytes(t *testing.T) { // P20.3: such as are the same but in their order, their length, or one byte
	for _, other := range [][]string{{"b", "a"}, {"a"}, {"b"}, {"a", "b", "c"}, {"", "a"}, {"ab\x00"}, {"\x00ab"}, {""}, {"", ""}, {"a", "c"}, {"A", "b"}, {"abab"}, {"ab", "ab"}} {
		f, what := wanting(4, 8), fmt.Sprintf("%q", other)
		takes(t, what, f, tell(8, 0, "a", "b")...)
		takes(t, what, f, tell(8, 1, other...)...)
		isntReady(t, what, f)
		takes(t, what, f, tell(8, 3, other...)...)
		isReady(t, what, f, joined(other))
		takes(t, what, f, tell(8, 2, "ab")...)
		isReady(t, what+", and those of replica 0", f, "ab")
	}
	for _, at := range []int{0, 1, 255, 256, 511, 512, 600, most*size - 1} {
		state := []byte(long(most * size))
		f := wanting(4, 8)
		takes(t, "one", f, tell(8, 0, cut(string(state))...)...)
		state[at] ^= 1
		takes(t, "another", f, tell(8, 1, cut(string(state))...)...)
		isntReady(t, fmt.Sprint("another byte ", at), f)
	}
}

// joined are pieces, one behind the other.
func joined(pieces []string) string {
	var out string
	for _, p := range pieces {
		out += p
	}
	return out
}

func TestTwoStates(t *testing.T) { // P20.3: of several, what the least of all these replicas told
	for _, n := range []int{4, 7} {
		// Each replica tells nothing, a part alone, or one of two states.
		ways := make([]int, n)
		for more := true; more; more = next(ways, 4) {
			tellersOf(t, n, ways)
		}
	}
}

// next counts on, in digits below base; is there one more?
func next(digits []int, base int) bool {
	for i := range digits {
		if digits[i]++; digits[i] < base {
			return true
		}
		digits[i] = 0
	}
	return false
}

// tellersOf asks for what is ready when replicas tell so: 0 nothing, 1 a part, 2 x, 3 y.
func tellersOf(t *testing.T, n int, ways []int) {
	t.Helper()
	f, what := wanting(n, 8), fmt.Sprint("replicas that tell ", ways)
	many, want, best := [4]int{}, "", -1
	for _, way := range ways {
		many[way]++
	}
	for who, way := range slices.Backward(ways) {
		switch way {
		case 1:
			takes(t, what, f, tell(8, who, "x", "")[:1]...)
		case 2:
			takes(t, what, f, tell(8, who, "x")...)
		case 3:
			takes(t, what, f, tell(8, who, "", "y")...)
		}
		if way >= 2 && many[way] >= weak(n) {
			want, best = []string{"x", "y"}[way-2], who
		}
	}
	if best < 0 {
		isntReady(t, what, f)
	} else {
		isReady(t, what, f, want)
	}
}

func TestTwoStatesInAnyOrder(t *testing.T) { // P20.3: in whatever order they came, and however often it is asked
	draw := rand.New(rand.NewSource(20))
	for _, n := range rightNs {
		for range 60 {
			f, w := wanting(n, 8), weak(n)
			perm := draw.Perm(n)
			one, other := perm[:w], perm[w:2*w-truth(draw.Intn(4) == 0)]
			for _, who := range draw.Perm(n) {
				switch {
				case slices.Contains(one, who):
					takes(t, "one", f, tell(8, who, "o", "ne")...)
				case slices.Contains(other, who):
					takes(t, "the other", f, tell(8, who, "other")...)
				default:
					takes(t, "neither", f, tell(8, who, fmt.Sprint("neither ", who))...)
				}
			}
			want := "one"
			if len(other) == w && slices.Min(other) < slices.Min(one) {
				want = "other"
			}
			for range 5 {
				isReady(t, fmt.Sprintf("one by %v, other by %v", one, other), f, want)
			}
		}
	}
}

func TestLeastChanges(t *testing.T) { // P20.3: it is asked of what came so far
	f := wanting(4, 8)
	takes(t, "x", f, append(tell(8, 2, "x"), tell(8, 3, "x")...)...)
	isReady(t, "x", f, "x")
	takes(t, "y", f, tell(8, 1, "y")...)
	isReady(t, "x and one y", f, "x")
	takes(t, "y", f, tell(8, 0, "y")...)
	isReady(t, "x and y", f, "y")

	// The least replica that tells one of them counts, not the least of all.
	f = wanting(7, 8)
	for who, state := range []string{"z", "y", "x", "x", "x", "y", "y"} {
		takes(t, "three states", f, tell(8, who, state)...)
	}
	isReady(t, "three states", f, "y")
}

func TestOnePieceLacking(t *testing.T) { // P20.3: whichever, of whomever; and when it came
	whole := []string{"a", "b", "c", "d"}
	for lacking := range whole {
		for _, who := range from(0, 4) {
			f, what := wanting(4, 8), fmt.Sprintf("without piece %d of %d", lacking, who)
			all := tell(8, who, whole...)
			takes(t, what, f, tell(8, (who+1)%4, whole...)...)
			takes(t, what, f, slices.Delete(slices.Clone(all), lacking, lacking+1)...)
			isntReady(t, what, f)
			takes(t, what+", with it", f, all[lacking])
			isReady(t, what+", with it", f, "abcd")
		}
	}
	for lacking := range most {
		f, what := wanting(4, 8), fmt.Sprintf("without piece %d of both", lacking)
		pieces := cut(long(most * size))
		for _, who := range []int{1, 2} {
			takes(t, what, f, slices.Delete(tell(8, who, pieces...), lacking, lacking+1)...)
		}
		isntReady(t, what, f)
		takes(t, what, f, piece(8, 1, lacking, most, pieces[lacking]))
		isntReady(t, what, f)
		takes(t, what, f, piece(8, 2, lacking, most, pieces[lacking]))
		isReady(t, what, f, long(most*size))
	}
}

func TestEmptyPieceLacking(t *testing.T) { // P20.3: a piece of no bytes must be told, too
	for lacking := range 3 {
		f, what := wanting(4, 8), fmt.Sprint("without piece ", lacking)
		for _, who := range []int{0, 3} {
			takes(t, what, f, slices.Delete(tell(8, who, "", "", ""), lacking, lacking+1)...)
			isntReady(t, what, f)
		}
		takes(t, what+" of one", f, piece(8, 0, lacking, 3, ""))
		isntReady(t, what+" of one", f)
		takes(t, what+" of none", f, piece(8, 3, lacking, 3, ""))
		isReady(t, what+" of none", f, "")
	}
}

func TestNoBytes(t *testing.T) { // P20.3: a state of no bytes is one
	for many := 1; many <= most; many += 7 {
		f := wanting(4, 8)
		takes(t, "no bytes", f, tell(8, 3, make([]string, many)...)...)
		isntReady(t, "no bytes", f)
		takes(t, "no bytes", f, tell(8, 2, "")...)
		isReady(t, "no bytes", f, "")
		takes(t, "no bytes", f, tell(8, 1, "a")...)
		isReady(t, "no bytes and some", f, "")
		takes(t, "no bytes", f, tell(8, 0, "a")...)
		isReady(t, "no bytes and some", f, "a")
	}
}

func TestAnyOrder(t *testing.T) { // P20.3: pieces in any order, those of several replicas among one another
	draw := rand.New(rand.NewSource(4))
	for range 200 {
		f, many := wanting(7, 8), 1+draw.Intn(20)
		state := long(many*size - draw.Intn(size))
		var all []api.Msg
		for _, who := range draw.Perm(7)[:3] {
			all = append(all, tell(8, who, cut(state)...)...)
		}
		draw.Shuffle(len(all), func(i, j int) { all[i], all[j] = all[j], all[i] })
		for _, m := range all {
			isntReady(t, "in any order", f)
			takes(t, "in any order", f, m)
		}
		isReady(t, "in any order", f, state)
	}
}

func TestEveryOrder(t *testing.T) { // P20.3: of four pieces, each order
	var try func(came, left []int)
	try = func(came, left []int) {
		if len(left) == 0 {
			f, what := wanting(4, 8), fmt.Sprint("pieces in the order ", came)
			takes(t, what, f, tell(8, 0, "ab", "cd")...)
			for _, i := range came {
				isntReady(t, what, f)
				takes(t, what, f, tell(8, 1, "a", "b", "c", "d")[i])
			}
			isReady(t, what, f, "abcd")
		}
		for i := range left {
			try(append(slices.Clone(came), left[i]), slices.Delete(slices.Clone(left), i, i+1))
		}
	}
	try(nil, from(0, 4))
}

func TestAnswersStay(t *testing.T) { // P20.3: what was told stays, whatever comes
	f := wanting(4, 8)
	takes(t, "x", f, append(tell(8, 2, "x", "xx"), tell(8, 3, "xxx")...)...)
	told, ok := f.Ready()
	takes(t, "y", f, append(tell(8, 0, "yyy"), tell(8, 1, "yyy")...)...)
	isReady(t, "y", f, "yyy")
	f.Want(8)
	takes(t, "z", f, append(tell(8, 2, "z", "zz"), tell(8, 3, "zzz")...)...)
	isReady(t, "z", f, "zzz")
	if string(told) != "xxx" || !ok {
		t.Errorf("what was told became %q", told)
	}
}

// truth is 1 of what is true.
func truth(is bool) int {
	if is {
		return 1
	}
	return 0
}
