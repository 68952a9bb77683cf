package session

import (
	"bytes"
	"math/rand"
	"slices"
	"testing"

	"catenary/api"
)

// oneByOne is the state behind requests that are applied one after the other.
func oneByOne(a api.App, l ...api.Req) api.App {
	for _, r := range l {
		a, _, _ = Apply(a, r)
	}
	return a
}

func runs(t *testing.T, a api.App, want api.App, l ...api.Req) {
	t.Helper()
	if got := Run(a, l...); !sameState(got, want) {
		t.Errorf("Run(%v, %v) = %v; want %v", a, l, got, want)
	}
	if got := oneByOne(a, l...); !sameState(got, want) {
		t.Errorf("Apply of %v, %v: %v; want %v", a, l, got, want)
	}
}

func TestRun(t *testing.T) { // P9.4: of no request, of one, of several
	for _, a := range append(wrongStates(), api.App{}, some(), at(some(), lastSlot)) {
		runs(t, a, a)
		runs(t, a, a, []api.Req{}...)
	}
	l := []api.Req{
		ask(3, 7, put("a", "1")),
		ask(1, 1, acquire("a", 2)),
		{},
		ask(2, 9, acquire("a", 5)),
		ask(3, 8, del("a")),
		ask(3, 7, put("a", "2")),
	}
	wants := []api.App{
		{},
		{Slot: 1, Entries: []api.Entry{entry("a", "1")}, Sessions: []api.Session{seen(3, 7, api.Yes, "")}},
		{Slot: 2, Entries: []api.Entry{entry("a", "1")}, Leases: []api.Lease{held("a", 1, 4)}, Sessions: []api.Session{seen(1, 1, api.Yes, ""), seen(3, 7, api.Yes, "")}},
		{Slot: 3, Entries: []api.Entry{entry("a", "1")}, Leases: []api.Lease{held("a", 1, 4)}, Sessions: []api.Session{seen(1, 1, api.Yes, ""), seen(3, 7, api.Yes, "")}},
		{Slot: 4, Entries: []api.Entry{entry("a", "1")}, Leases: []api.Lease{held("a", 2, 9)}, Sessions: []api.Session{seen(1, 1, api.Yes, ""), seen(2, 9, api.Yes, ""), seen(3, 7, api.Yes, "")}},
		{Slot: 5, Leases: []api.Lease{held("a", 2, 9)}, Sessions: []api.Session{seen(1, 1, api.Yes, ""), seen(2, 9, api.Yes, ""), seen(3, 8, api.Yes, "")}},
		{Slot: 6, Leases: []api.Lease{held("a", 2, 9)}, Sessions: []api.Session{seen(1, 1, api.Yes, ""), seen(2, 9, api.Yes, ""), seen(3, 8, api.Yes, "")}},
	}
	for i, a := range wants {
		for j := i; j <= len(l); j++ {
			runs(t, a, wants[j], l[i:j]...)
		}
	}
}

func TestRunAgain(t *testing.T) { // P9.4: a request that comes again changes nothing but the Slot
	for _, a := range []api.App{{}, some(), sessionsOf(some(), clients(1, 2, 3, 4)...)} {
		for _, r := range requests() {
			once, first, _ := Apply(a, r)
			twice, second, done := Apply(once, r)
			if done || !sameResult(first, second) || !sameState(twice, at(once, a.Slot+2)) {
				t.Errorf("%v behind %v again: %v, %v, %v; at first %v, %v", r, a, twice, second, done, once, first)
			}
			for many := 1; many < 40; many++ {
				runs(t, a, at(once, a.Slot+many), slices.Repeat([]api.Req{r}, many)...)
			}
			// Others come between, and it is past even its lease.
			others := []api.Req{ask(3, 1000, put("z", "1")), {}, ask(3, 1001, acquire("z", 1)), {}}
			behind := Run(once, others...)
			runs(t, behind, at(behind, behind.Slot+1), r)
		}
	}
}

func TestRunToTheEnd(t *testing.T) { // P9.4: at MaxSlot nothing leads on
	puts := []api.Req{ask(1, 1, put("a", "1")), ask(1, 2, put("b", "2")), ask(1, 3, put("c", "3"))}
	a := api.App{Slot: lastSlot - 2}
	runs(t, a, api.App{Slot: lastSlot, Entries: []api.Entry{entry("a", "1"), entry("b", "2")}, Sessions: []api.Session{seen(1, 2, api.Yes, "")}}, puts...)
	a.Slot++
	runs(t, a, api.App{Slot: lastSlot, Entries: []api.Entry{entry("a", "1")}, Sessions: []api.Session{seen(1, 1, api.Yes, "")}}, puts...)
	a.Slot++
	runs(t, a, a, puts...)
	// From the beginning on there are just MaxSlot slots.
	if got := Run(api.App{}, make([]api.Req, lastSlot+5)...); !sameState(got, api.App{Slot: lastSlot}) {
		t.Errorf("more than MaxSlot requests: %v", got)
	}
}

func TestRunOfWhatIsNotRight(t *testing.T) { // P9.4
	for _, a := range wrongStates() {
		runs(t, a, a, requests()[:20]...)
	}
	// None of very many requests makes it right.
	a := api.App{Sessions: clients(2, 1), Entries: slices.Repeat(wrongEntries()[0], 1000)}
	if got := Run(a, slices.Repeat(requests()[40:60], 5000)...); !sameState(got, a) {
		t.Error("a state that isn't right didn't stay")
	}
}

// hold is who holds a name, and up to when.
type hold struct{ owner, until int }

// model is the service's state, kept otherwise than the layer keeps it.
type model struct {
	slot     int
	values   map[string]string
	holds    map[string]hold
	sessions map[int]api.Session
}

func newModel() *model {
	return &model{values: map[string]string{}, holds: map[string]hold{}, sessions: map[int]api.Session{}}
}

// state is the model as the layer's state.
func (m *model) state() api.App {
	a := api.App{Slot: m.slot}
	for name, value := range m.values {
		a.Entries = append(a.Entries, entry(name, value))
	}
	for name, h := range m.holds {
		a.Leases = append(a.Leases, held(name, h.owner, h.until))
	}
	slices.SortFunc(a.Entries, func(a, b api.Entry) int { return bytes.Compare(a.Name, b.Name) })
	slices.SortFunc(a.Leases, func(a, b api.Lease) int { return bytes.Compare(a.Name, b.Name) })
	for client := 1; client <= 4; client++ {
		if session, is := m.sessions[client]; is {
			a.Sessions = append(a.Sessions, session)
		}
	}
	return a
}

// take says what comes of a client's request for an operation, or for none (nil), and whether it is done now.
func (m *model) take(client, stamp int, o *api.Op) (int, string, bool) {
	m.slot++
	if last, is := m.sessions[client]; is && stamp <= last.Stamp {
		if stamp < last.Stamp {
			return api.Old, "", false
		}
		return last.Result.Code, string(last.Result.Value), false
	}
	code, value := api.Bad, ""
	if o != nil && o.Kind <= 4 {
		code, value = m.onValues(*o)
	} else if o != nil {
		code, value = m.onHolds(*o, client)
	}
	m.sessions[client] = seen(client, stamp, code, value)
	return code, value, true
}

func (m *model) onValues(o api.Op) (int, string) {
	name := string(o.Name)
	was, is := m.values[name]
	switch {
	case o.Kind == api.OpPut && !is && len(m.values) == 64:
		return api.Full, ""
	case o.Kind == api.OpPut:
		m.values[name] = string(o.A)
	case !is:
		return api.Missing, ""
	case o.Kind == api.OpGet:
		return api.Yes, was
	case o.Kind == api.OpDelete:
		delete(m.values, name)
	case was != string(o.A):
		return api.Differs, was
	default:
		m.values[name] = string(o.B)
	}
	return api.Yes, ""
}

func (m *model) onHolds(o api.Op, client int) (int, string) {
	for name, h := range m.holds {
		if h.until <= m.slot {
			delete(m.holds, name)
		}
	}
	name := string(o.Name)
	h, is := m.holds[name]
	told := value(h.owner, h.until-m.slot)
	switch {
	case !is && o.Kind == api.OpAcquire && len(m.holds) == 16:
		return api.Full, ""
	case !is && o.Kind != api.OpAcquire:
		return api.Missing, ""
	case o.Kind == api.OpHolder:
		return api.Yes, told
	case is && h.owner != client:
		return api.Held, told
	case o.Kind == api.OpRelease:
		delete(m.holds, name)
	default:
		m.holds[name] = hold{client, m.slot + o.Num}
	}
	return api.Yes, ""
}

// anOp is a random operation on one of some names.
func anOp(random *rand.Rand, names int) api.Op {
	o := api.Op{Kind: 1 + random.Intn(8), Name: []byte{'n', byte(random.Intn(names))}}
	// Few names go, so that there get to be too many.
	if (o.Kind == api.OpDelete || o.Kind == api.OpRelease) && random.Intn(4) > 0 {
		o.Kind -= 2
	}
	switch o.Kind {
	case api.OpPut:
		o.A = text(random.Intn(3))
	case api.OpCas:
		o.A, o.B = text(random.Intn(3)), text(random.Intn(3))
	case api.OpAcquire, api.OpRenew:
		o.Num = 1 + random.Intn(60)
	}
	return o
}

func TestAsTheModel(t *testing.T) { // P9.3, P9.4
	for _, names := range []int{2, 20, 100} {
		random := rand.New(rand.NewSource(int64(names)))
		var a api.App
		var l []api.Req
		m := newModel()
		codes := make([]int, 7)
		for range 4000 {
			o := anOp(random, names)
			client := 1 + random.Intn(4)
			// Mostly the next Stamp, sometimes a later one, the last one again, or one that is past.
			stamp := max(1, m.sessions[client].Stamp+[]int{1, 1, 1, 1, 2, 0, -1}[random.Intn(7)])
			r := ask(client, stamp, o)
			asked := &o
			if random.Intn(20) == 0 {
				r.Op = append(r.Op, 0)
				asked = nil
			}
			before := a
			code, value, done := m.take(client, stamp, asked)
			gives(t, before, r, m.state(), code, value, done)
			a, _, _ = Apply(before, r)
			if !Right(a) {
				t.Fatalf("Apply(%v, %v) isn't Right: %v", before, r, a)
			}
			lastIs(t, a, client, m.sessions[client].Stamp, m.sessions[client].Result.Code, string(m.sessions[client].Result.Value))
			codes[code]++
			l = append(l, r)
		}
		runs(t, api.App{}, a, l...)
		if names == 100 && slices.Contains(codes, 0) {
			t.Errorf("some code never came: %v", codes)
		}
	}
}

func TestEachIsDoneOnce(t *testing.T) { // P9.4: requests that come again and late, in any order, count as if each came once
	random := rand.New(rand.NewSource(1))
	for range 200 {
		var once, again []api.Req
		for stamp := 1; stamp <= 10; stamp++ {
			for client := 1; client <= 4; client++ {
				o := anOp(random, 5)
				o.Kind = 1 + o.Kind%4
				// Leases hang on the slot, entries don't.
				o.Num, o.A, o.B = 0, nil, nil
				if o.Kind == api.OpPut {
					o.A = text(random.Intn(5))
				}
				r := ask(client, stamp, o)
				once = append(once, r)
				again = append(again, r)
				for range random.Intn(4) {
					again = append(again, once[random.Intn(len(once))])
				}
			}
		}
		runs(t, api.App{}, at(Run(api.App{}, once...), len(again)), again...)
	}
}
