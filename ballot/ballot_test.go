package ballot

import (
	"math"
	"math/bits"
	"slices"
	"testing"

	"catenary/api"
)

// clusters are all right numbers of replicas.
var clusters = []int{4, 7, 10, 13, 16}

// noClusters are the other numbers up to beyond the greatest right one, and the edges of numbers, some of them right in their lowest bits.
func noClusters() []int {
	out := []int{math.MinInt, math.MinInt + 1, math.MinInt + 4, -1 << 32, -1<<32 + 4, 1<<31 - 1, 1 << 31, 1 << 32, 1<<32 + 4, 1<<32 + 7, math.MaxInt - 1, math.MaxInt}
	for n := -50; n <= 300; n++ {
		if !slices.Contains(clusters, n) {
			out = append(out, n)
		}
	}
	return out
}

// permutations are all orders of n.
func permutations(n int) [][]int {
	if n == 0 {
		return [][]int{{}}
	}
	var out [][]int
	for _, shorter := range permutations(n - 1) {
		for at := range n {
			out = append(out, slices.Insert(slices.Clone(shorter), at, n-1))
		}
	}
	return out
}

// someOrders are all orders of 4, or some of a greater n: from its Starts to thoroughly mixed ones.
func someOrders(n int) [][]int {
	if n == 4 {
		return permutations(n)
	}
	var out [][]int
	for first := range n {
		for step := 1; step < n; step++ {
			order := make([]int, 0, n)
			for at := first; !slices.Contains(order, at%n); at += step {
				order = append(order, at%n)
			}
			for r := range n {
				if !slices.Contains(order, r) {
					order = append(order, r)
				}
			}
			out = append(out, order)
		}
	}
	return out
}

// changed answers a copy of the list with r at a place.
func changed(order []int, at, r int) []int {
	out := slices.Clone(order)
	out[at] = r
	return out
}

// noOrders are lists that are no order of as many as they have, nor of any other n.
func noOrders() [][]int {
	out := [][]int{nil, {}, {0}, {0, 1}, {0, 1, 2}, {0, 1, 2, 3, 4}, {4, 1, 2, 3}, {1, 2, 3, 4}, {0, 0, 0, 0}, {-1, 0, 1, 2}, {0, 1, 2, 3, 0, 1, 2}}
	for _, n := range clusters {
		for _, order := range [][]int{Start(0, n), Start(n-2, n)} {
			out = append(out, order[:n-1], append(slices.Clone(order), n), append(slices.Clone(order), 0), append(slices.Clone(order), n, n+1, n+1))
			for at := range n {
				for _, r := range []int{-1, -n, n, n + 1, 2 * n, 256 + order[at], 1<<32 + order[at], math.MinInt, math.MaxInt, order[(at+1)%n], order[(at+n-1)%n], order[(at+2)%n]} {
					out = append(out, changed(order, at, r))
				}
			}
		}
	}
	for _, n := range []int{19, 22, 64, 256, 259, 1000} {
		out = append(out, make([]int, n), count(n))
	}
	return out
}

// count answers the numbers from 0 to n - 1.
func count(n int) []int {
	out := make([]int, n)
	for i := range out {
		out[i] = i
	}
	return out
}

// wantShift tells place by place who stands there behind a Shift of an order; nil, if it is refused.
func wantShift(order []int, accuser, accused int) []int {
	n := len(order)
	lastActive := (n - 1) / 3 * 2
	from := slices.Index(order, accuser)
	if from < 0 || from+1 > lastActive || order[from+1] != accused {
		return nil
	}
	want := make([]int, n)
	for i := range want {
		switch {
		case i == n-1:
			want[i] = accused
		case i < from || i == 0:
			want[i] = order[i]
		case from == 0 || i > lastActive:
			want[i] = order[i+1]
		case i == lastActive:
			want[i] = accuser
		default:
			want[i] = order[i+2]
		}
	}
	return want
}

// checkShift asks for the answer, and that an error has no order beside it.
func checkShift(t *testing.T, order []int, accuser, accused int, want []int) {
	t.Helper()
	e := api.OK
	if want == nil {
		e = api.ErrBallot
	}
	got, gotE := Shift(order, accuser, accused)
	if !slices.Equal(got, want) || gotE != e {
		t.Errorf("Shift(%v, %d, %d) = %v, %v; want %v, %v", order, accuser, accused, got, gotE, want, e)
	}
}

// roomy answers a list with the same numbers and spare room that is filled with 77.
func roomy(order []int) []int {
	all := append(make([]int, 0, len(order)+20), order...)
	for len(all) < cap(all) {
		all = append(all, 77)
	}
	return all[:len(order)]
}

// wasWritten tells whether a list of roomy isn't what it was, spare room included.
func wasWritten(got, want []int) bool {
	for _, spare := range got[len(got):cap(got)] {
		if spare != 77 {
			return true
		}
	}
	return !slices.Equal(got, want)
}

// fill writes over a list and its spare room.
func fill(order []int, with int) {
	order = order[:cap(order)]
	for i := range order {
		order[i] = with
	}
}

func TestNumbersOfClusters(t *testing.T) { // P4.1
	if api.MaxF != 5 {
		t.Fatalf("MaxF is %d", api.MaxF)
	}
	for i, n := range clusters {
		f := i + 1
		if !Right(n) || Faults(n) != f || Quorum(n) != 2*f+1 || Weak(n) != f+1 {
			t.Errorf("n = %d: %v %d %d %d", n, Right(n), Faults(n), Quorum(n), Weak(n))
		}
	}
	for _, n := range noClusters() {
		if Right(n) || Faults(n) != 0 || Quorum(n) != 0 || Weak(n) != 0 {
			t.Errorf("n = %d: %v %d %d %d", n, Right(n), Faults(n), Quorum(n), Weak(n))
		}
	}
}

func TestQuorumsShare(t *testing.T) { // P4.1, and the document's first example
	for _, n := range clusters {
		if 2*Quorum(n)-n != Weak(n) || n-Faults(n) != Quorum(n) {
			t.Errorf("n = %d: two quorums of %d share %d", n, Quorum(n), 2*Quorum(n)-n)
		}
	}
	for _, n := range []int{4, 7} {
		fewest := n
		for a := range uint(1) << n {
			for b := range uint(1) << n {
				if bits.OnesCount(a) == Quorum(n) && bits.OnesCount(b) == Quorum(n) {
					fewest = min(fewest, bits.OnesCount(a&b))
				}
			}
		}
		if fewest != Weak(n) {
			t.Errorf("n = %d: two quorums share %d", n, fewest)
		}
	}
	if Quorum(4) != 3 || Weak(4) != 2 {
		t.Errorf("n = 4: quorums of %d share %d", Quorum(4), Weak(4))
	}
}

func TestCompare(t *testing.T) { // P4.2
	// Each ballot is lower than all behind it.
	var rising []api.Ballot
	numbers := []int{math.MinInt, math.MinInt + 1, -1 << 32, -2, -1, 0, 1, 2, 9, 10, api.MaxView, api.MaxView + 1, 1<<31 - 1, 1 << 32, math.MaxInt - 1, math.MaxInt}
	for _, view := range numbers {
		for _, turn := range numbers {
			rising = append(rising, api.Ballot{View: view, Turn: turn})
		}
	}
	for i, a := range rising {
		for j, b := range rising {
			want := 0
			if i < j {
				want = -1
			} else if i > j {
				want = 1
			}
			if got := Compare(a, b); got != want {
				t.Errorf("Compare(%v, %v) = %d; want %d", a, b, got, want)
			}
		}
	}
}

func TestHead(t *testing.T) { // P4.2
	for _, n := range clusters {
		for view := range 5 * n {
			want := view
			for want >= n {
				want -= n
			}
			for _, turn := range []int{0, 1, -1, n, math.MinInt, math.MaxInt} {
				if got := Head(api.Ballot{View: view, Turn: turn}, n); got != want {
					t.Errorf("Head of view %d, turn %d, n %d: %d; want %d", view, turn, n, got, want)
				}
			}
		}
		for _, view := range []int{-1, -2, 1 - n, -n, -n - 1, -1 << 32, math.MinInt, math.MinInt + 1} {
			if got := Head(api.Ballot{View: view, Turn: 3}, n); got != -1 {
				t.Errorf("Head of view %d, n %d: %d; want -1", view, n, got)
			}
		}
	}
	for _, c := range []struct{ view, n, want int }{
		{9, 4, 1}, {0, 4, 0}, {3, 4, 3}, {4, 4, 0}, {6, 7, 6}, {7, 7, 0}, {15, 16, 15}, {16, 16, 0},
		{api.MaxView, 4, 0}, {api.MaxView, 7, 1}, {api.MaxView + 1, 7, 2}, {1 << 32, 7, 4},
		{math.MaxInt, 4, 3}, {math.MaxInt, 7, 0}, {math.MaxInt, 10, 7}, {math.MaxInt, 13, 7}, {math.MaxInt, 16, 15},
	} {
		if got := Head(api.Ballot{View: c.view}, c.n); got != c.want {
			t.Errorf("Head of view %d, n %d: %d; want %d", c.view, c.n, got, c.want)
		}
	}
}

func TestNoHead(t *testing.T) { // P4.2 and P4.3: where n isn't right, there is no head and no order
	for _, n := range noClusters() {
		for _, view := range []int{math.MinInt, -1, 0, 1, n - 1, n, math.MaxInt} {
			if got := Head(api.Ballot{View: view}, n); got != -1 {
				t.Errorf("Head of view %d, n %d: %d; want -1", view, n, got)
			}
			if got := Start(view, n); len(got) != 0 {
				t.Errorf("Start(%d, %d) has %d replicas", view, n, len(got))
			}
		}
	}
}

func TestStart(t *testing.T) { // P4.3
	for _, c := range []struct {
		view, n int
		want    []int
	}{
		{0, 4, []int{0, 1, 2, 3}},
		{6, 4, []int{2, 3, 0, 1}},
		{3, 4, []int{3, 0, 1, 2}},
		{4, 4, []int{0, 1, 2, 3}},
		{6, 7, []int{6, 0, 1, 2, 3, 4, 5}},
		{7, 7, []int{0, 1, 2, 3, 4, 5, 6}},
		{math.MaxInt, 4, []int{3, 0, 1, 2}},
		{math.MaxInt, 10, []int{7, 8, 9, 0, 1, 2, 3, 4, 5, 6}},
		{math.MaxInt, 16, []int{15, 0, 1, 2, 3, 4, 5, 6, 7, 8, 9, 10, 11, 12, 13, 14}},
		{-1, 4, nil},
		{-4, 4, nil},
		{math.MinInt, 7, nil},
	} {
		if got := Start(c.view, c.n); !slices.Equal(got, c.want) {
			t.Errorf("Start(%d, %d) = %v; want %v", c.view, c.n, got, c.want)
		}
	}
	for _, n := range clusters {
		for view := -2 * n; view < 0; view++ {
			if got := Start(view, n); len(got) != 0 {
				t.Errorf("Start(%d, %d) = %v", view, n, got)
			}
		}
		for _, from := range []int{0, api.MaxView - n, 1<<32 - n, math.MaxInt - 3*n} {
			for view := from; view < from+3*n; view++ {
				checkStart(t, view, n)
			}
		}
		checkStart(t, math.MaxInt-1, n)
		checkStart(t, math.MaxInt, n)
	}
}

// checkStart asks that an order begins with the head, and that each of the others is the next number of the one ahead.
func checkStart(t *testing.T, view, n int) {
	t.Helper()
	got := Start(view, n)
	if len(got) != n || got[0] != int(uint64(view)%uint64(n)) || !Order(got, n) {
		t.Errorf("Start(%d, %d) = %v", view, n, got)
		return
	}
	for i := 1; i < n; i++ {
		if got[i] != got[i-1]+1 && (got[i] != 0 || got[i-1] != n-1) {
			t.Errorf("Start(%d, %d) = %v", view, n, got)
		}
	}
}

func TestOrder(t *testing.T) { // P4.3
	for _, n := range clusters {
		for _, order := range someOrders(n) {
			if !Order(order, n) || !Order(roomy(order), n) {
				t.Errorf("Order(%v, %d) is false", order, n)
			}
			for _, other := range clusters {
				if other != n && Order(order, other) {
					t.Errorf("Order(%v, %d) is true", order, other)
				}
			}
			for _, other := range []int{0, -n, n - 1, n + 1, 1<<32 + n, math.MinInt, math.MaxInt} {
				if Order(order, other) {
					t.Errorf("Order(%v, %d) is true", order, other)
				}
			}
		}
		// The front of a longer list is no order, whatever lies in the spare room of a shorter one.
		long := count(n + 3)
		if Order(long, n) || Order(long[:n-1], n) || !Order(long[:n], n) {
			t.Errorf("Order of more or fewer than %d", n)
		}
	}
}

func TestNoOrder(t *testing.T) { // P4.3
	for _, list := range noOrders() {
		for _, n := range append([]int{-1, 0, 1, len(list), len(list) - 1, len(list) + 1, math.MinInt, math.MaxInt}, clusters...) {
			// The front of some of the lists is an order, but not the whole.
			if Order(list, n) {
				t.Errorf("Order(%v, %d) is true", list, n)
			}
		}
	}
	// Each number just once, but n isn't right.
	for n := -1; n <= 300; n++ {
		if Order(count(max(n, 0)), n) != slices.Contains(clusters, n) {
			t.Errorf("Order of the numbers below %d is %v", n, Order(count(max(n, 0)), n))
		}
	}
}

func TestPlace(t *testing.T) { // P4.3
	for _, n := range clusters {
		for _, order := range someOrders(n) {
			for at, r := range order {
				if got := Place(order, r); got != at {
					t.Errorf("Place(%v, %d) = %d; want %d", order, r, got, at)
				}
			}
			for _, r := range []int{-1, n, n + 1, 256, 1 << 32, math.MinInt, math.MaxInt} {
				if got := Place(order, r); got != -1 {
					t.Errorf("Place(%v, %d) = %d; want -1", order, r, got)
				}
			}
		}
	}
	for _, c := range []struct {
		list    []int
		r, want int
	}{
		{nil, 0, -1},
		{[]int{}, 0, -1},
		{nil, -1, -1},
		{[]int{5}, 5, 0},
		{[]int{5}, 0, -1},
		{[]int{3, 1, 2, 1}, 1, 1},
		{[]int{3, 1, 2, 3}, 3, 0},
		{[]int{2, 2, 2}, 2, 0},
		{[]int{0, 1, 7, 9, 7, 7}, 7, 2},
		{[]int{0, -1, 4, -1}, -1, 1},
		{[]int{0, 1, 2, math.MinInt, math.MaxInt}, math.MinInt, 3},
		{[]int{0, 1, 2, math.MinInt, math.MaxInt}, math.MaxInt, 4},
		{[]int{1 << 32, 256, 0}, 0, 2},
		{[]int{0, 1, 2, 3}[:2], 3, -1},
		{make([]int, 1000), 0, 0},
		{append(make([]int, 1000), 1), 1, 1000},
	} {
		if got := Place(c.list, c.r); got != c.want {
			t.Errorf("Place(%v, %d) = %d; want %d", c.list, c.r, got, c.want)
		}
	}
}

func TestShiftWrittenOut(t *testing.T) { // P4.4: the chapter's examples, and the document's second
	for _, c := range []struct {
		order            []int
		accuser, accused int
		want             []int
	}{
		{[]int{0, 1, 2, 3, 4, 5, 6}, 2, 3, []int{0, 1, 4, 5, 2, 6, 3}},
		{[]int{0, 1, 2, 3, 4, 5, 6}, 0, 1, []int{0, 2, 3, 4, 5, 6, 1}},
		// The first that isn't the head.
		{[]int{0, 1, 2, 3, 4, 5, 6}, 1, 2, []int{0, 3, 4, 5, 1, 6, 2}},
		// The accused at the last active place, and at the first passive one.
		{[]int{0, 1, 2, 3, 4, 5, 6}, 3, 4, []int{0, 1, 2, 5, 3, 6, 4}},
		{[]int{0, 1, 2, 3, 4, 5, 6}, 4, 5, nil},
		{[]int{0, 1, 2, 3, 4, 5, 6}, 5, 6, nil},
		{[]int{6, 2, 0, 5, 1, 3, 4}, 5, 1, []int{6, 2, 0, 3, 5, 4, 1}},
		{[]int{6, 2, 0, 5, 1, 3, 4}, 6, 2, []int{6, 0, 5, 1, 3, 4, 2}},
		{[]int{0, 1, 2, 3}, 0, 1, []int{0, 2, 3, 1}},
		{[]int{0, 1, 2, 3}, 1, 2, []int{0, 3, 1, 2}},
		{[]int{0, 1, 2, 3}, 2, 3, nil},
		{[]int{1, 2, 3, 0}, 2, 3, []int{1, 0, 2, 3}},
		{[]int{0, 1, 2, 3, 4, 5, 6, 7, 8, 9, 10, 11, 12, 13, 14, 15}, 9, 10, []int{0, 1, 2, 3, 4, 5, 6, 7, 8, 11, 9, 12, 13, 14, 15, 10}},
		{[]int{0, 1, 2, 3, 4, 5, 6, 7, 8, 9, 10, 11, 12, 13, 14, 15}, 10, 11, nil},
		// The last has none behind it, not even the first.
		{[]int{0, 1, 2, 3}, 3, 0, nil},
		// Behind, but not at the next place; ahead; itself.
		{[]int{0, 1, 2, 3}, 0, 2, nil},
		{[]int{0, 1, 2, 3}, 1, 0, nil},
		{[]int{0, 1, 2, 3}, 1, 1, nil},
		// Numbers that aren't in the order.
		{[]int{0, 1, 2, 3}, -1, 0, nil},
		{[]int{0, 1, 2, 3}, 4, 0, nil},
		{[]int{0, 1, 2, 3}, 3, 4, nil},
		{[]int{0, 1, 2, 3}, 3, -1, nil},
		{[]int{0, 1, 2, 3}, 4, 5, nil},
		{[]int{0, 1, 2, 3}, -1, -1, nil},
		// No orders.
		{[]int{0, 1, 2, 2}, 0, 1, nil},
		{[]int{0, 1, 2, 4}, 0, 1, nil},
		{[]int{0, 1, 2, -1}, 0, 1, nil},
		{[]int{0, 1, 2}, 0, 1, nil},
		{[]int{0, 1, 2, 3, 4}, 0, 1, nil},
		{[]int{}, 0, 1, nil},
		{nil, 0, 1, nil},
	} {
		checkShift(t, c.order, c.accuser, c.accused, c.want)
	}
}

func TestShift(t *testing.T) { // P4.4: each accuser and accused of an order, and numbers beside them
	for _, n := range clusters {
		numbers := []int{math.MinInt, math.MinInt + 1, -1 << 32, 256, 1 << 32, 1<<32 + 1, math.MaxInt - 1, math.MaxInt}
		for r := -2; r < n+2; r++ {
			numbers = append(numbers, r)
		}
		for _, order := range someOrders(n) {
			turned := 0
			for _, accuser := range numbers {
				for _, accused := range numbers {
					want := wantShift(order, accuser, accused)
					checkShift(t, order, accuser, accused, want)
					if want != nil {
						turned++
						checkTurned(t, order, accuser, accused)
					}
				}
			}
			if turned != Quorum(n)-1 {
				t.Errorf("%v can be turned in %d ways", order, turned)
			}
		}
	}
}

// checkTurned asks for what follows from a Shift: the head stays, the accused is last, the first passive one is active, an accuser behind the head is the last active one, and the others follow one another as ahead.
func checkTurned(t *testing.T, order []int, accuser, accused int) {
	t.Helper()
	n := len(order)
	q := Quorum(n)
	got, _ := Shift(order, accuser, accused)
	if !Order(got, n) || got[0] != order[0] || got[n-1] != accused || Place(got, order[q]) >= q {
		t.Errorf("Shift(%v, %d, %d) = %v", order, accuser, accused, got)
		return
	}
	if accuser != order[0] && got[q-1] != accuser {
		t.Errorf("Shift(%v, %d, %d) = %v: the accuser isn't the last active one", order, accuser, accused, got)
	}
	moved := func(r int) bool { return r == accused || r == accuser && r != order[0] }
	ahead, behind := slices.DeleteFunc(slices.Clone(order), moved), slices.DeleteFunc(slices.Clone(got), moved)
	if !slices.Equal(ahead, behind) {
		t.Errorf("Shift(%v, %d, %d) = %v: others were moved", order, accuser, accused, got)
	}
}

func TestShiftOfNoOrder(t *testing.T) { // P4.4
	for _, list := range noOrders() {
		checkShift(t, list, 0, 1, nil)
		checkShift(t, list, -1, 0, nil)
		checkShift(t, list, math.MaxInt, math.MinInt, nil)
		for i := 1; i < len(list); i++ {
			checkShift(t, list, list[i-1], list[i], nil)
		}
	}
}

func TestShiftAgainAndAgain(t *testing.T) { // P4.4: a turned order can be turned
	for _, n := range clusters {
		got, want := Start(n-1, n), Start(n-1, n)
		for i := range 5 * n {
			at := i % (Quorum(n) - 1)
			var e api.Errno
			want = wantShift(want, want[at], want[at+1])
			got, e = Shift(got, got[at], got[at+1])
			if e != api.OK || !slices.Equal(got, want) {
				t.Fatalf("turn %d of %d: %v, %v; want %v", i, n, got, e, want)
			}
		}
	}
}

func TestArgumentsStay(t *testing.T) {
	for _, n := range clusters {
		for _, want := range [][]int{Start(0, n), Start(n-1, n), make([]int, n), Start(0, n)[:n-1], nil} {
			order := roomy(want)
			Order(order, n)
			Place(order, n-1)
			Place(order, -1)
			for accuser := -1; accuser <= n; accuser++ {
				for accused := -1; accused <= n; accused++ {
					Shift(order, accuser, accused)
				}
			}
			if wasWritten(order, want) {
				t.Errorf("%v is %v now", want, order[:cap(order)])
			}
		}
	}
}

func TestArgumentsAreNotKept(t *testing.T) {
	for _, n := range clusters {
		for at := range Quorum(n) - 1 {
			order := roomy(Start(1, n))
			accuser, accused := order[at], order[at+1]
			want := wantShift(order, accuser, accused)
			got, _ := Shift(order, accuser, accused)
			fill(order, 99)
			if !slices.Equal(got, want) {
				t.Errorf("Shift's answer changed with the argument: %v; want %v", got, want)
			}
			if Order(order, n) || Place(order, accuser) != -1 {
				t.Error("Order or Place went by an earlier call's argument")
			}
			checkShift(t, order, accuser, accused, nil)
		}
	}
}

func TestAnswersAreNewMemory(t *testing.T) {
	for _, n := range clusters {
		order := roomy(Start(2, n))
		calls := []func() []int{func() []int { return Start(2, n) }}
		wants := [][]int{slices.Clone(order)}
		for at := range Quorum(n) - 1 {
			calls = append(calls, func() []int {
				got, _ := Shift(order, order[at], order[at+1])
				return got
			})
			wants = append(wants, wantShift(order, order[at], order[at+1]))
		}
		for i, call := range calls {
			one, two := call(), call()
			fill(one, 99)
			if !slices.Equal(two, wants[i]) || !slices.Equal(call(), wants[i]) {
				t.Errorf("call %d of n %d changed behind a write into its earlier answer", i, n)
			}
			if slices.ContainsFunc(one[:cap(one)], func(r int) bool { return r != 99 }) {
				t.Errorf("a later call wrote into an earlier answer of call %d of n %d", i, n)
			}
		}
		if wasWritten(order, wants[0]) {
			t.Errorf("a write into an answer changed the order: %v", order[:cap(order)])
		}
	}
}
