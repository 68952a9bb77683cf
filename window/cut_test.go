package window

import (
	"fmt"
	"math"
	"math/rand"
	"testing"

	"catenary/api"
)

// full is a window above low with all open slots known; what is known of each is another thing, and rows are those.
func full(low int) (*Window, []row) {
	w, rows := New(low), []row(nil)
	for i := range open {
		slot, at := low+1+i, row{slot: low + 1 + i}
		for k, a := range asks() {
			// Of the first alone all three are told.
			if i > 0 && i%3 != k {
				continue
			}
			r := api.Req{Client: i, Stamp: k, Op: []byte{byte(slot)}}
			a.do(w, api.Ballot{View: i, Turn: k}, slot, r, certs()[i%6]...)
			at.Slot = a.put(at.Slot, api.Ballot{View: i, Turn: k}, r, certs()[i%6]...)
		}
		rows = append(rows, at)
	}
	return w, rows
}

// above are the rows above low.
func above(low int, rows []row) []row {
	var out []row
	for _, r := range rows {
		if r.slot > low {
			out = append(out, r)
		}
	}
	return out
}

func TestCut(t *testing.T) { // P17.3: by less than 16, by 16 and by more; what isn't In any more is forgotten, all else stays
	for _, low := range []int{0, 4, 100} {
		for _, by := range []int{1, 2, 7, 14, 15, 16, 17, 18, 31, 32, 33, 500, mostSlot - low - 1, mostSlot - low} {
			w, rows := full(low)
			holds(t, "ahead of it", w, low, rows...)
			for range 2 {
				w.Cut(low + by)
				holds(t, fmt.Sprintf("behind Cut(%d) of %d", low+by, low), w, low+by, above(low+by, rows)...)
			}
		}
	}
}

func TestCutAtTheEnd(t *testing.T) { // P17.3: at MaxSlot, which is the last one
	w, rows := full(mostSlot - 3)
	w.Cut(mostSlot)
	holds(t, "at MaxSlot", w, mostSlot, above(mostSlot, rows)...)
	for _, low := range []int{mostSlot + 1, mostSlot + 16, 1 << 32, math.MaxInt, mostSlot, mostSlot - 1} {
		w.Cut(low)
		holds(t, fmt.Sprintf("behind Cut(%d)", low), w, mostSlot, above(mostSlot, rows)...)
	}
}

func TestCutsThatChangeNothing(t *testing.T) { // P17.3: at Low, below it, below 0 and above MaxSlot
	for _, low := range []int{0, 4, 100, mostSlot - 1, mostSlot} {
		w, rows := full(low)
		for _, cut := range []int{low, low - 1, low - 16, low - 17, 0, -1, -low - 1, math.MinInt, mostSlot + 1, mostSlot + 2, mostSlot + 17, math.MaxInt32, 1 << 32, 1<<32 + low + 1, math.MaxInt - 1, math.MaxInt} {
			w.Cut(cut)
			holds(t, fmt.Sprintf("behind Cut(%d) of %d", cut, low), w, low, rows...)
		}
	}
}

func TestCutOfNothing(t *testing.T) { // P17.3: of a window of which nothing is known
	w := New(4)
	for _, step := range [][2]int{{4, 4}, {3, 4}, {5, 5}, {4, 5}, {9, 9}, {mostSlot + 1, 9}, {-1, 9}, {mostSlot, mostSlot}} {
		w.Cut(step[0])
		holds(t, fmt.Sprintf("behind Cut(%d)", step[0]), w, step[1])
	}
}

func TestCallsBehindACut(t *testing.T) { // P17.2, P17.3: slots that were cut stay closed, those that came in are open, of the rest what was known counts
	for _, a := range asks() {
		w := New(4)
		for _, slot := range []int{5, 8, 9, 20} {
			a.do(w, two, slot, b())
		}
		answers(t, a.name+" ahead of it", a.do(w, two, 21, b()), refused)
		w.Cut(8)
		for _, slot := range []int{4, 5, 8, 25} {
			answers(t, fmt.Sprintf("%s at %d", a.name, slot), a.do(w, two, slot, b()), refused)
		}
		rows := []row{a.now(9, two, b()), a.now(20, two, b())}
		holds(t, a.name, w, 8, rows...)
		for _, slot := range []int{9, 20} {
			answers(t, fmt.Sprintf("%s of another at %d", a.name, slot), a.do(w, two, slot, api.Req{}), refused)
		}
		for _, slot := range []int{21, 24} {
			answers(t, fmt.Sprintf("%s at %d", a.name, slot), a.do(w, one, slot, api.Req{}), 0)
			rows = append(rows, a.now(slot, one, api.Req{}))
		}
		holds(t, a.name, w, 8, rows...)
	}
}

func TestCutsOneByOne(t *testing.T) { // P17.3
	w, rows := full(10)
	for low := 11; low < 40; low++ {
		w.Cut(low)
		holds(t, fmt.Sprintf("behind Cut(%d)", low), w, low, above(low, rows)...)
	}
}

func TestPreps(t *testing.T) { // P17.3: one for each slot that HasPrep, rising whatever the order was, with what Prep was handed
	draw := rand.New(rand.NewSource(17))
	for range 200 {
		w, known := New(4), map[int]row{}
		for _, i := range draw.Perm(open) {
			slot := 5 + i
			for k, a := range asks() {
				if draw.Intn(2) == 0 {
					r, votes := api.Req{Client: i, Stamp: k}, certs()[draw.Intn(6)]
					a.do(w, api.Ballot{View: k, Turn: i}, slot, r, votes...)
					known[slot] = row{slot, a.put(known[slot].Slot, api.Ballot{View: k, Turn: i}, r, votes...)}
				}
			}
		}
		var rows []row
		for slot := 5; slot <= 20; slot++ {
			if r, ok := known[slot]; ok {
				rows = append(rows, r)
			}
		}
		holds(t, "a drawn window", w, 4, rows...)
	}
}

func TestNoPreps(t *testing.T) { // P17.3: of what was voted for or is committed alone, there is none
	w := New(4)
	w.Vote(one, 5, a())
	w.Done(one, 5, a(), certs()[0]...)
	w.Done(one, 6, a(), certs()[0]...)
	if got := w.Preps(); len(got) != 0 {
		t.Errorf("told %v", got)
	}
	w.Prep(api.Ballot{}, 6, api.Req{})
	if got := w.Preps(); len(got) != 1 || fmt.Sprintf("%+v", got[0]) != fmt.Sprintf("%+v", api.Prep{Slot: 6}) {
		t.Errorf("told %+v", got)
	}
}

func TestPrepsLast(t *testing.T) { // P17.3: what was prepared last counts, and the refused doesn't
	w := New(4)
	w.Prep(one, 9, a(), certs()[0]...)
	w.Prep(two, 9, b(), certs()[4]...)
	w.Prep(one, 9, a(), certs()[2]...)
	w.Prep(two, 9, a(), certs()[2]...)
	want := []api.Prep{{Slot: 9, Ballot: two, Req: b(), Cert: certs()[4]}}
	if got := w.Preps(); fmt.Sprintf("%+v", got) != fmt.Sprintf("%+v", want) {
		t.Errorf("told %+v; want %+v", got, want)
	}
	w.Cut(9)
	if got := w.Preps(); len(got) != 0 {
		t.Errorf("behind Cut told %+v", got)
	}
}
