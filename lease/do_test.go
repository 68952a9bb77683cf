package lease

import (
	"bytes"
	"math"
	"math/rand"
	"slices"
	"testing"

	"catenary/api"
)

func TestExample(t *testing.T) { // P8.3: the chapter's
	l, result := Do(nil, acquire("a", 3), 1, 5)
	if result.Code != api.Yes || len(result.Value) != 0 || !sameLeases(l, []api.Lease{lease("a", 1, 8)}) {
		t.Errorf("client 1 acquires a at 5: %v, %v", l, result)
	}
	does(t, l, acquire("a", 3), 2, 7, l, api.Held, "\x01\x01")
	does(t, l, acquire("a", 3), 2, 8, []api.Lease{lease("a", 2, 11)}, api.Yes, "")
	// DOC.md's: acquired at slot 5 for 3, held at 7, not at 8.
	holds(t, l, "a", 7, 1, 1)
	holds(t, l, "a", 8, 0, 0)
}

func TestDoOwn(t *testing.T) { // P8.3: the client holds it, at the front, in the middle, at the end
	l := []api.Lease{lease("b", 2, 50), lease("d", 4, 60), lease("f", 1, 1000)}
	for at, one := range l {
		name, me := string(one.Name), one.Owner
		for _, now := range []int{0, 10, 48, 49} {
			does(t, l, holder(name), me, now, l, api.Yes, value(me, one.Until-now))
			does(t, l, release(name), me, now, without(l, at), api.Yes, "")
			// The new term may end ahead of the old one, too.
			for _, num := range []int{1, 2, one.Until - now, 999, 1000} {
				does(t, l, acquire(name, num), me, now, with(l, at, lease(name, me, now+num)), api.Yes, "")
				does(t, l, renew(name, num), me, now, with(l, at, lease(name, me, now+num)), api.Yes, "")
			}
		}
	}
}

func TestDoAnothers(t *testing.T) { // P8.3: another client holds it, at the front, in the middle, at the end
	l := []api.Lease{lease("b", 2, 50), lease("d", 4, 60), lease("f", 1, 1000)}
	for _, one := range l {
		name := string(one.Name)
		for client := 1; client <= 4; client++ {
			for _, now := range []int{0, 10, 48, 49} {
				told := value(one.Owner, one.Until-now)
				does(t, l, holder(name), client, now, l, api.Yes, told)
				if client == one.Owner {
					continue
				}
				for _, num := range []int{1, 1000} {
					does(t, l, acquire(name, num), client, now, l, api.Held, told)
					does(t, l, renew(name, num), client, now, l, api.Held, told)
				}
				does(t, l, release(name), client, now, l, api.Held, told)
			}
		}
	}
}

func TestDoNobodys(t *testing.T) { // P8.3: nobody holds it; ahead of all, between, behind all
	l := []api.Lease{lease("b", 2, 50), lease("d", 4, 60), lease("f", 1, 1000)}
	for at, name := range []string{"a", "c", "e", "g"} {
		for client := 1; client <= 4; client++ {
			for _, now := range []int{0, 10, 48, 49} {
				does(t, l, holder(name), client, now, l, api.Missing, "")
				does(t, l, release(name), client, now, l, api.Missing, "")
				for _, num := range []int{1, 2, 999, 1000} {
					does(t, l, renew(name, num), client, now, l, api.Missing, "")
					does(t, l, acquire(name, num), client, now, and(l, at, lease(name, client, now+num)), api.Yes, "")
				}
			}
		}
	}
}

func TestDoOnNothing(t *testing.T) { // P8.3
	for _, l := range [][]api.Lease{nil, {}} {
		for _, now := range []int{0, 1, 127, 1000000, lastNow} {
			does(t, l, holder("a"), 1, now, nil, api.Missing, "")
			does(t, l, release("a"), 1, now, nil, api.Missing, "")
			does(t, l, renew("a", 1), 1, now, nil, api.Missing, "")
			does(t, l, acquire("a", 1), 1, now, []api.Lease{lease("a", 1, now+1)}, api.Yes, "")
			does(t, l, acquire("a", 1000), 4, now, []api.Lease{lease("a", 4, now+1000)}, api.Yes, "")
		}
	}
	does(t, []api.Lease{lease("a", 1, 9)}, release("a"), 1, 5, nil, api.Yes, "")
}

func TestDoNearNames(t *testing.T) { // P8.3: by their bytes, the whole of them
	l := []api.Lease{lease("a", 1, 11), lease("ab", 2, 12), lease("b", 3, 13), lease("\x80", 4, 14)}
	for at, name := range []string{"a", "ab", "b", "\x80"} {
		does(t, l, holder(name), 1, 5, l, api.Yes, value(at+1, at+6))
	}
	for _, c := range []struct {
		name string
		at   int
	}{{"A", 0}, {"\x00", 0}, {"a\x00", 1}, {"aa", 1}, {"ab\x00", 2}, {"abc", 2}, {"az", 2}, {"ba", 3}, {"\x7f", 3}, {"\x80\x00", 4}, {"\xff", 4}} {
		does(t, l, holder(c.name), 1, 5, l, api.Missing, "")
		does(t, l, acquire(c.name, 3), 2, 5, and(l, c.at, lease(c.name, 2, 8)), api.Yes, "")
	}
	long := string(text(16))
	held := []api.Lease{lease(long, 1, 8)}
	does(t, nil, acquire(long, 3), 1, 5, held, api.Yes, "")
	does(t, held, holder(long), 1, 5, held, api.Yes, value(1, 3))
	does(t, held, holder(long[:15]), 1, 5, held, api.Missing, "")
	stays(t, held, holder(long+"x"), 1, 5)
}

func TestAroundUntil(t *testing.T) { // P8.3: at the slot before Until, at Until and behind it
	for _, until := range []int{1, 2, 8, 1000, 1000000, lastNow, lastNow + 1} {
		l := []api.Lease{lease("a", 3, until)}
		before := until - 1
		does(t, l, holder("a"), 2, before, l, api.Yes, value(3, 1))
		does(t, l, acquire("a", 9), 2, before, l, api.Held, value(3, 1))
		does(t, l, renew("a", 9), 2, before, l, api.Held, value(3, 1))
		does(t, l, release("a"), 2, before, l, api.Held, value(3, 1))
		does(t, l, acquire("a", 9), 3, before, []api.Lease{lease("a", 3, before+9)}, api.Yes, "")
		does(t, l, renew("a", 9), 3, before, []api.Lease{lease("a", 3, before+9)}, api.Yes, "")
		does(t, l, release("a"), 3, before, nil, api.Yes, "")
		for _, now := range []int{until, until + 1, until + 500} {
			if now > lastNow {
				continue
			}
			for _, client := range []int{2, 3} {
				does(t, l, holder("a"), client, now, nil, api.Missing, "")
				does(t, l, renew("a", 9), client, now, nil, api.Missing, "")
				does(t, l, release("a"), client, now, nil, api.Missing, "")
				does(t, l, acquire("a", 9), client, now, []api.Lease{lease("a", client, now+9)}, api.Yes, "")
			}
		}
	}
}

func TestWhatIsLeft(t *testing.T) { // P8.3: as the Int of layer 1, in as many bytes as it needs
	for _, left := range []int{1, 2, 127, 128, 300, 1000, 16383, 16384, 1 << 21, 1<<28 - 1, 1 << 28, math.MaxInt32} {
		l := []api.Lease{lease("a", 4, left)}
		does(t, l, holder("a"), 1, 0, l, api.Yes, value(4, left))
		does(t, l, renew("a", 1), 1, 0, l, api.Held, value(4, left))
	}
	// 300 slots are written as 172 2.
	l := []api.Lease{lease("a", 2, 305)}
	does(t, l, holder("a"), 1, 5, l, api.Yes, "\x02\xac\x02")
	does(t, l, acquire("a", 1), 1, 5, l, api.Held, "\x02\xac\x02")
}

func TestOversGoFirst(t *testing.T) { // P8.3: whatever is done, and to whichever name
	l := []api.Lease{lease("a", 1, 10), lease("b", 2, 12), lease("c", 3, 9), lease("d", 4, 10), lease("e", 1, 11)}
	for _, c := range []struct {
		now  int
		left string
	}{{8, "abcde"}, {9, "abde"}, {10, "be"}, {11, "b"}, {12, ""}, {13, ""}, {1000000, ""}, {lastNow, ""}} {
		left := slices.DeleteFunc(slices.Clone(l), func(one api.Lease) bool { return !bytes.Contains([]byte(c.left), one.Name) })
		does(t, l, holder("x"), 1, c.now, left, api.Missing, "")
		does(t, l, release("x"), 1, c.now, left, api.Missing, "")
		does(t, l, renew("x", 7), 1, c.now, left, api.Missing, "")
		does(t, l, acquire("x", 7), 1, c.now, append(slices.Clone(left), lease("x", 1, c.now+7)), api.Yes, "")
		does(t, l, acquire("\x01", 7), 1, c.now, and(left, 0, lease("\x01", 1, c.now+7)), api.Yes, "")
		for at, one := range left {
			name, told := string(one.Name), value(one.Owner, one.Until-c.now)
			does(t, l, holder(name), 1, c.now, left, api.Yes, told)
			other := one.Owner%4 + 1
			does(t, l, release(name), other, c.now, left, api.Held, told)
			does(t, l, renew(name, 7), other, c.now, left, api.Held, told)
			does(t, l, acquire(name, 7), other, c.now, left, api.Held, told)
			does(t, l, release(name), one.Owner, c.now, without(left, at), api.Yes, "")
			does(t, l, renew(name, 7), one.Owner, c.now, with(left, at, lease(name, one.Owner, c.now+7)), api.Yes, "")
			does(t, l, acquire(name, 7), one.Owner, c.now, with(left, at, lease(name, one.Owner, c.now+7)), api.Yes, "")
		}
	}
}

func TestOversGoFirstWhenFull(t *testing.T) { // P8.3: those that are over don't count for Full
	l := row(16, 20)
	does(t, l, acquire("z", 5), 1, 19, l, api.Full, "")
	// The first of them is over at 20.
	does(t, l, acquire("z", 5), 1, 20, append(slices.Clone(l[1:]), lease("z", 1, 25)), api.Yes, "")
	does(t, l, acquire("a", 5), 1, 20, and(l[1:], 0, lease("a", 1, 25)), api.Yes, "")
	does(t, l, acquire(letters(0), 5), 3, 20, with(l, 0, lease(letters(0), 3, 25)), api.Yes, "")
	for at := range l {
		over := slices.Clone(l)
		over[at].Until = 3
		does(t, over, acquire("z", 5), 1, 2, over, api.Full, "")
		does(t, over, acquire("z", 5), 1, 3, append(without(l, at), lease("z", 1, 8)), api.Yes, "")
		does(t, over, acquire("a", 5), 1, 3, and(without(l, at), 0, lease("a", 1, 8)), api.Yes, "")
		does(t, over, acquire(letters(2*at), 5), 2, 3, with(l, at, lease(letters(2*at), 2, 8)), api.Yes, "")
	}
}

func TestDoAtEachPlace(t *testing.T) { // P8.3: of each number of leases
	const now = 5
	for many := range 17 {
		l := row(many, 20)
		for i, one := range l {
			name, me, other := string(one.Name), one.Owner, one.Owner%4+1
			told := value(me, one.Until-now)
			again := with(l, i, lease(name, me, now+9))
			does(t, l, holder(name), other, now, l, api.Yes, told)
			does(t, l, acquire(name, 9), other, now, l, api.Held, told)
			does(t, l, renew(name, 9), other, now, l, api.Held, told)
			does(t, l, release(name), other, now, l, api.Held, told)
			does(t, l, acquire(name, 9), me, now, again, api.Yes, "")
			does(t, l, renew(name, 9), me, now, again, api.Yes, "")
			does(t, l, release(name), me, now, without(l, i), api.Yes, "")
		}
		for i := range many + 1 {
			name := "m"
			if i > 0 {
				name = letters(2*i - 1)
			}
			does(t, l, holder(name), 2, now, l, api.Missing, "")
			does(t, l, renew(name, 9), 2, now, l, api.Missing, "")
			does(t, l, release(name), 2, now, l, api.Missing, "")
			if many < 16 {
				does(t, l, acquire(name, 9), 2, now, and(l, i, lease(name, 2, now+9)), api.Yes, "")
			} else {
				does(t, l, acquire(name, 9), 2, now, l, api.Full, "")
			}
		}
	}
}

func TestFull(t *testing.T) { // P8.3: a lease less, and there is room again
	l, result := Do(row(15, 20), acquire("z", 50), 3, 5)
	if result.Code != api.Yes || len(l) != 16 {
		t.Fatalf("an acquire at 15 leases: %v, %d leases", result, len(l))
	}
	does(t, l, acquire("zz", 50), 3, 5, l, api.Full, "")
	does(t, l, acquire("z", 50), 4, 5, l, api.Held, value(3, 50))
	does(t, l, acquire("z", 60), 3, 5, with(l, 15, lease("z", 3, 65)), api.Yes, "")
	l, _ = Do(l, release("z"), 3, 5)
	does(t, l, acquire("zz", 50), 1, 5, append(row(15, 20), lease("zz", 1, 55)), api.Yes, "")
}

func TestClientsAndNows(t *testing.T) { // P8.3
	l := []api.Lease{lease("a", 1, math.MaxInt32), lease("b", 4, 1), lease("c", 4, math.MaxInt32)}
	for _, now := range []int{0, 1, lastNow - 1, lastNow} {
		left := l
		if now >= 1 {
			left = without(l, 1)
		}
		does(t, l, holder("a"), 4, now, left, api.Yes, value(1, math.MaxInt32-now))
		does(t, l, release("c"), 4, now, left[:len(left)-1], api.Yes, "")
		does(t, l, release("a"), 1, now, left[1:], api.Yes, "")
		does(t, l, acquire("z", 1000), 1, now, append(slices.Clone(left), lease("z", 1, now+1000)), api.Yes, "")
		does(t, l, acquire("z", 1000), 4, now, append(slices.Clone(left), lease("z", 4, now+1000)), api.Yes, "")
		does(t, l, renew("a", 1000), 1, now, with(left, 0, lease("a", 1, now+1000)), api.Yes, "")
	}
	for _, name := range []string{"a", "b", "c", "z"} {
		for _, o := range allOps(name) {
			for _, client := range noClients {
				for _, now := range []int{0, 5, lastNow} {
					stays(t, l, o, client, now)
					stays(t, nil, o, client, now)
				}
			}
			for _, now := range noNows {
				for client := 1; client <= 4; client++ {
					stays(t, l, o, client, now)
					stays(t, nil, o, client, now)
				}
				stays(t, l, o, 0, now)
			}
		}
	}
}

// wrongOps aren't done here; their Names may be held.
func wrongOps() []api.Op {
	n := []byte("n")
	var out []api.Op
	for _, kind := range noKinds {
		out = append(out, api.Op{Kind: kind, Name: n}, api.Op{Kind: kind, Name: n, Num: 5}, api.Op{Kind: kind, Name: n, A: []byte("1")}, api.Op{Kind: kind, Name: n, A: []byte("1"), B: []byte("2")})
	}
	for _, kind := range kinds {
		num := 1
		if kind == api.OpRelease || kind == api.OpHolder {
			num = 0
		}
		out = append(out,
			api.Op{Kind: kind, Num: num},
			api.Op{Kind: kind, Name: text(17), Num: num},
			api.Op{Kind: kind, Name: n, A: []byte("1"), Num: num},
			api.Op{Kind: kind, Name: n, B: []byte("1"), Num: num},
			api.Op{Kind: kind, Name: n, Num: 1 - num},
		)
		for _, num := range []int{math.MinInt, -1<<32 + 1, -1, 1001, math.MaxInt32, 1 << 32, 1<<32 + 1, math.MaxInt} {
			out = append(out, api.Op{Kind: kind, Name: n, Num: num})
		}
	}
	return append(out, api.Op{})
}

// wrongLists aren't Right; all but the last hold n, or did at some slot.
func wrongLists() [][]api.Lease {
	held := lease("n", 1, 8)
	out := [][]api.Lease{
		{held, lease("m", 2, 9)},
		{held, held},
		{held, lease("n", 2, 9)},
		{lease("m", 1, 1), held, held, lease("o", 1, 9)},
		{lease("", 1, 9), held},
		{held, lease("", 1, 9)},
		{held, lease("o"+string(text(16)), 1, 9)},
		append(row(16, 20), lease("n\xff", 1, 9)),
		append([]api.Lease{held}, row(16, 20)...),
		row(17, 1),
		row(100, 20),
		slices.Repeat([]api.Lease{held}, 300),
	}
	for _, owner := range noClients {
		out = append(out, []api.Lease{lease("n", owner, 8)}, []api.Lease{held, lease("o", owner, 1)})
	}
	for _, until := range noUntils {
		out = append(out, []api.Lease{lease("n", 1, until)}, []api.Lease{held, lease("o", 1, until)})
	}
	return append(out, []api.Lease{{}})
}

func TestWrongOpsAreBad(t *testing.T) { // P8.3
	for _, o := range wrongOps() {
		for _, l := range [][]api.Lease{nil, {lease("n", 1, 8)}, {lease("a", 1, 1), lease("n", 1, 8), lease("o", 3, 6)}, row(16, 1)} {
			for _, now := range []int{0, 5, 8, lastNow} {
				stays(t, l, o, 1, now)
				stays(t, l, o, 2, now)
			}
		}
	}
}

func TestWrongListsStay(t *testing.T) { // P8.3
	for _, l := range wrongLists() {
		for _, o := range slices.Concat(allOps("n"), allOps("m"), allOps("z"), wrongOps()) {
			for _, now := range []int{-1, 0, 5, 7, 8, 9, lastNow, lastNow + 1} {
				for client := range 4 {
					stays(t, l, o, client, now)
				}
			}
		}
	}
}

// held is who holds a name, and up to when.
type held struct{ owner, until int }

// model is which names are held, kept otherwise than the layer keeps them.
type model map[string]held

// do says what comes of an operation that isn't Bad.
func (m model) do(o api.Op, client, now int) (int, string) {
	for name, h := range m {
		if h.until <= now {
			delete(m, name)
		}
	}
	name := string(o.Name)
	h, is := m[name]
	told := value(h.owner, h.until-now)
	mine := is && h.owner == client
	switch o.Kind {
	case api.OpHolder:
		if is {
			return api.Yes, told
		}
		return api.Missing, ""
	case api.OpAcquire:
		if !is && len(m) == 16 {
			return api.Full, ""
		}
		if !is || mine {
			m[name] = held{client, now + o.Num}
			return api.Yes, ""
		}
	case api.OpRenew:
		if mine {
			m[name] = held{client, now + o.Num}
			return api.Yes, ""
		}
	case api.OpRelease:
		if mine {
			delete(m, name)
			return api.Yes, ""
		}
	}
	if is {
		return api.Held, told
	}
	return api.Missing, ""
}

func (m model) leases() []api.Lease {
	var l []api.Lease
	for name, h := range m {
		l = append(l, lease(name, h.owner, h.until))
	}
	slices.SortFunc(l, func(a, b api.Lease) int { return bytes.Compare(a.Name, b.Name) })
	return l
}

// asTheModel asks that an operation does with leases what it does with the model of them, and answers the leases behind it.
func asTheModel(t *testing.T, l []api.Lease, m model, o api.Op, client, now int) []api.Lease {
	t.Helper()
	code, value := m.do(o, client, now)
	does(t, l, o, client, now, m.leases(), code, value)
	got, _ := Do(l, o, client, now)
	if !Right(got) {
		t.Errorf("Do(%v, %v, %d, %d) isn't Right: %v", l, o, client, now, got)
	}
	return got
}

func TestAllOfThree(t *testing.T) { // P8.3: three names, each free, over, or held by one or another for long or short
	const now = 10
	choices := []held{{}}
	for _, owner := range []int{1, 4} {
		for _, until := range []int{now - 1, now, now + 1, now + 130} {
			choices = append(choices, held{owner, until})
		}
	}
	for i := range len(choices) * len(choices) * len(choices) {
		l := []api.Lease{}
		rest := i
		for _, name := range []string{"b", "d", "f"} {
			if h := choices[rest%len(choices)]; h != (held{}) {
				l = append(l, lease(name, h.owner, h.until))
			}
			rest /= len(choices)
		}
		for _, name := range []string{"a", "b", "c", "d", "e", "f", "g"} {
			for _, o := range allOps(name) {
				for _, client := range []int{1, 2, 4} {
					m := model{}
					for _, one := range l {
						m[string(one.Name)] = held{one.Owner, one.Until}
					}
					asTheModel(t, l, m, o, client, now)
				}
			}
		}
	}
}

// walk is a random operation on one of some names, of terms that aren't above most.
func walk(random *rand.Rand, names, most int) api.Op {
	o := api.Op{Kind: 5 + random.Intn(4), Name: []byte(letters(random.Intn(names)))}
	// Few releases, so that the leases get full.
	if o.Kind == api.OpRelease && random.Intn(4) > 0 {
		o.Kind = api.OpAcquire
	}
	if o.Kind == api.OpAcquire || o.Kind == api.OpRenew {
		o.Num = 1 + random.Intn(most)
	}
	return o
}

func TestDoOneBehindTheOther(t *testing.T) { // P8.3
	for _, names := range []int{2, 10, 20, 100} {
		for _, most := range []int{3, 40, 1000} {
			random := rand.New(rand.NewSource(int64(names + most)))
			var l []api.Lease
			m := model{}
			now := 0
			for range 2000 {
				now += random.Intn(3)
				l = asTheModel(t, l, m, walk(random, names, most), 1+random.Intn(4), now)
			}
		}
	}
}

func TestNobodyLosesItByAnother(t *testing.T) { // P8.4
	for seed := range int64(20) {
		random := rand.New(rand.NewSource(seed))
		var l []api.Lease
		promised := map[string]held{}
		for now := range 400 {
			for range random.Intn(4) {
				o, client := walk(random, 4, 20), 1+random.Intn(4)
				name := string(o.Name)
				before := promised[name]
				var result api.Result
				l, result = Do(l, o, client, now)
				if result.Code != api.Yes || o.Kind == api.OpHolder {
					continue
				}
				// A Yes to anything but a question changes the lease: nobody but its owner may, before its Until.
				if before.until > now && before.owner != client {
					t.Fatalf("at %d client %d took %q, which is client %d's up to %d", now, client, name, before.owner, before.until)
				}
				promised[name] = held{client, now + o.Num}
			}
			for name, h := range promised {
				holders := 0
				for _, one := range l {
					if string(one.Name) == name && one.Until > now {
						holders++
					}
				}
				owner, left := Holder(l, []byte(name), now)
				if h.until > now && (holders != 1 || owner != h.owner || left != h.until-now) {
					t.Fatalf("at %d %d leases of %q, client %d holds it for %d; it is client %d's up to %d: %v", now, holders, name, owner, left, h.owner, h.until, l)
				}
				if h.until <= now && (holders != 0 || owner != 0 || left != 0) {
					t.Fatalf("at %d client %d holds %q for %d; nobody does since %d: %v", now, owner, name, left, h.until, l)
				}
			}
		}
	}
}

func TestTheyTakeTurns(t *testing.T) { // P8.4: each gets it at the other's Until, not a slot earlier
	l, _ := Do(nil, acquire("a", 10), 1, 0)
	for now := 1; now < 100; now++ {
		before, left := Holder(l, []byte("a"), now-1)
		for client := 1; client <= 4; client++ {
			if client != before && left > 1 {
				does(t, l, acquire("a", 10), client, now, l, api.Held, value(before, left-1))
				does(t, l, release("a"), client, now, l, api.Held, value(before, left-1))
			}
		}
		if left == 1 {
			other := before%4 + 1
			does(t, l, acquire("a", 10), other, now, []api.Lease{lease("a", other, now+10)}, api.Yes, "")
			l, _ = Do(l, acquire("a", 10), other, now)
		}
	}
	// Acquired at 0, 10, 20 and so on, by 1, 2, 3, 4 and 1 again.
	holds(t, l, "a", 99, 2, 1)
}

func TestOrderOfAcquires(t *testing.T) { // P8.3: the same leases, whichever came first
	names := []string{"d", "a", "aa", "\xff", "\x00", "b"}
	want := []api.Lease{lease("\x00", 2, 17), lease("a", 2, 17), lease("aa", 2, 17), lease("b", 2, 17), lease("d", 2, 17), lease("\xff", 2, 17)}
	random := rand.New(rand.NewSource(1))
	for range 100 {
		random.Shuffle(len(names), func(i, j int) { names[i], names[j] = names[j], names[i] })
		var l []api.Lease
		for _, name := range names {
			l, _ = Do(l, acquire(name, 7), 2, 10)
		}
		if !sameLeases(l, want) {
			t.Errorf("acquires of %q: %v; want %v", names, l, want)
		}
	}
}
