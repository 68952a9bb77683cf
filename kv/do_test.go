package kv

import (
	"bytes"
	"math/rand"
	"slices"
	"testing"

	"catenary/api"
)

func TestExample(t *testing.T) { // P7.3: the chapter's
	l, result := Do(nil, put("a", "1"))
	if result.Code != api.Yes || len(result.Value) != 0 || !sameEntries(l, entries("a", "1")) {
		t.Errorf("Put a 1: %q, %v", l, result)
	}
	does(t, l, cas("a", "2", "3"), l, api.Differs, "1")
	does(t, l, cas("a", "1", "3"), entries("a", "3"), api.Yes, "")
}

func TestDoThere(t *testing.T) { // P7.3: at the front, in the middle, at the end
	l := entries("b", "1", "d", "2", "f", "3")
	for at, entry := range l {
		name, value := string(entry.Name), string(entry.Value)
		with := func(value string) []api.Entry {
			out := slices.Clone(l)
			out[at].Value = []byte(value)
			return out
		}
		does(t, l, get(name), l, api.Yes, value)
		does(t, l, put(name, "new"), with("new"), api.Yes, "")
		does(t, l, put(name, ""), with(""), api.Yes, "")
		does(t, l, put(name, value), l, api.Yes, "")
		does(t, l, cas(name, value, "new"), with("new"), api.Yes, "")
		does(t, l, cas(name, value, ""), with(""), api.Yes, "")
		does(t, l, cas(name, "other", "new"), l, api.Differs, value)
		does(t, l, cas(name, "", "new"), l, api.Differs, value)
		does(t, l, cas(name, "new", value), l, api.Differs, value)
		does(t, l, del(name), slices.Concat(l[:at], l[at+1:]), api.Yes, "")
	}
}

func TestDoNotThere(t *testing.T) { // P7.3: ahead of all, between, behind all
	l := entries("b", "1", "d", "2", "f", "3")
	for at, name := range []string{"a", "c", "e", "g"} {
		filled := append(slices.Clone(l[:at]), entries(name, "new")...)
		empty := append(slices.Clone(l[:at]), entries(name, "")...)
		does(t, l, get(name), l, api.Missing, "")
		does(t, l, put(name, "new"), append(filled, l[at:]...), api.Yes, "")
		does(t, l, put(name, ""), append(empty, l[at:]...), api.Yes, "")
		does(t, l, cas(name, "", ""), l, api.Missing, "")
		does(t, l, cas(name, "1", "2"), l, api.Missing, "")
		does(t, l, del(name), l, api.Missing, "")
	}
}

func TestDoOnNothing(t *testing.T) { // P7.3
	for _, l := range [][]api.Entry{nil, {}} {
		does(t, l, get("a"), nil, api.Missing, "")
		does(t, l, put("a", "1"), entries("a", "1"), api.Yes, "")
		does(t, l, put("a", ""), entries("a", ""), api.Yes, "")
		does(t, l, cas("a", "", "1"), nil, api.Missing, "")
		does(t, l, del("a"), nil, api.Missing, "")
	}
	does(t, entries("a", "1"), del("a"), nil, api.Yes, "")
}

func TestDoNearNames(t *testing.T) { // P7.3: by their bytes, the whole of them
	l := entries("a", "1", "ab", "2", "b", "3", "\x80", "4")
	for _, c := range []struct {
		name, value string
		at          int
	}{
		{"A", "", 0}, {"\x00", "", 0}, {"a\x00", "", 1}, {"aa", "", 1}, {"ab\x00", "", 2}, {"abc", "", 2}, {"az", "", 2}, {"ba", "", 3}, {"\x7f", "", 3}, {"\x80\x00", "", 4}, {"\xff", "", 4},
		{"a", "1", 0}, {"ab", "2", 1}, {"b", "3", 2}, {"\x80", "4", 3},
	} {
		if c.value != "" {
			does(t, l, get(c.name), l, api.Yes, c.value)
			continue
		}
		does(t, l, get(c.name), l, api.Missing, "")
		does(t, l, put(c.name, "x"), slices.Concat(l[:c.at], entries(c.name, "x"), l[c.at:]), api.Yes, "")
	}
}

func TestCasValues(t *testing.T) { // P7.3
	texts := []string{"", "\x00", "\x00\x00", "a", "aa", "ab", "b", "\xff", string(text(63)), string(text(64))}
	for _, value := range texts {
		l := entries("m", "x", "n", value, "o", "")
		for _, a := range texts {
			for _, b := range texts {
				if a == value {
					does(t, l, cas("n", a, b), entries("m", "x", "n", b, "o", ""), api.Yes, "")
				} else {
					does(t, l, cas("n", a, b), l, api.Differs, value)
				}
			}
		}
	}
}

func TestDoAtEachPlace(t *testing.T) { // P7.3: of each number of entries
	for many := range 65 {
		l := row(many)
		for i, entry := range l {
			name, value := string(entry.Name), string(entry.Value)
			does(t, l, get(name), l, api.Yes, value)
			does(t, l, del(name), slices.Concat(l[:i], l[i+1:]), api.Yes, "")
			does(t, l, put(name, "x"), slices.Concat(l[:i], entries(name, "x"), l[i+1:]), api.Yes, "")
			does(t, l, cas(name, value, "x"), slices.Concat(l[:i], entries(name, "x"), l[i+1:]), api.Yes, "")
		}
		for i := range many + 1 {
			name := string(letter(2*i - 1))
			if i == 0 {
				name = "m"
			}
			does(t, l, get(name), l, api.Missing, "")
			does(t, l, del(name), l, api.Missing, "")
			does(t, l, cas(name, "", "x"), l, api.Missing, "")
			if many < 64 {
				does(t, l, put(name, "x"), slices.Concat(l[:i], entries(name, "x"), l[i:]), api.Yes, "")
			} else {
				does(t, l, put(name, "x"), l, api.Full, "")
			}
		}
	}
}

func TestFull(t *testing.T) { // P7.3: a Name less, and there is room again
	l, result := Do(row(63), put("z", "1"))
	if result.Code != api.Yes || len(l) != 64 {
		t.Fatalf("a put at 63 entries: %v, %d entries", result, len(l))
	}
	does(t, l, put("zz", "2"), l, api.Full, "")
	does(t, l, put("z", "2"), slices.Concat(l[:63], entries("z", "2")), api.Yes, "")
	l, _ = Do(l, del("z"))
	does(t, l, put("zz", "2"), slices.Concat(row(63), entries("zz", "2")), api.Yes, "")
}

func TestDoLongest(t *testing.T) { // P7.3
	name, value := string(text(16)), string(text(64))
	l := entries(name, value)
	does(t, nil, put(name, value), l, api.Yes, "")
	does(t, l, get(name), l, api.Yes, value)
	does(t, l, cas(name, value, "x"+value[1:]), entries(name, "x"+value[1:]), api.Yes, "")
	does(t, l, cas(name, value[:63], "x"), l, api.Differs, value)
	does(t, l, del(name), nil, api.Yes, "")
	stays(t, l, put(name, value+"x"))
	stays(t, l, put(name+"x", value))
	stays(t, l, cas(name, value, value+"x"))
	stays(t, l, cas(name, value+"x", value))
}

func TestLeasesAreBad(t *testing.T) { // P7.3: the kinds from OpAcquire on, whether their Name is there or not
	for _, kind := range []int{api.OpAcquire, api.OpRenew, api.OpRelease, api.OpHolder} {
		for _, l := range [][]api.Entry{nil, entries("n", ""), entries("a", "1"), entries("a", "1", "n", "2", "o", "3"), row(64)} {
			stays(t, l, least(kind))
			stays(t, l, most(kind))
		}
	}
}

// wrongOps can't be written; their Names may be there.
func wrongOps() []api.Op {
	var out []api.Op
	for _, kind := range noKinds {
		out = append(out, api.Op{Kind: kind, Name: []byte("n")}, api.Op{Kind: kind, Name: []byte("n"), A: []byte("1")})
	}
	for _, kind := range kinds {
		for _, change := range []func(o *api.Op){
			func(o *api.Op) { o.Name = nil },
			func(o *api.Op) { o.Name = text(17) },
			func(o *api.Op) { o.A = text(65) },
			func(o *api.Op) { o.B = text(65) },
			func(o *api.Op) { o.Num = -1 },
			func(o *api.Op) { o.Num = 1001 },
		} {
			o := least(kind)
			change(&o)
			out = append(out, o)
		}
	}
	for _, kind := range []int{api.OpGet, api.OpPut, api.OpCas, api.OpDelete} {
		out = append(out, api.Op{Kind: kind, Name: []byte("n"), Num: 1})
	}
	for _, kind := range []int{api.OpGet, api.OpDelete} {
		out = append(out, api.Op{Kind: kind, Name: []byte("n"), A: []byte("1")})
	}
	for _, kind := range []int{api.OpGet, api.OpPut, api.OpDelete} {
		out = append(out, api.Op{Kind: kind, Name: []byte("n"), B: []byte("1")})
	}
	return append(out, api.Op{})
}

// wrongLists aren't Right; all but the last have the Name n in them.
func wrongLists() [][]api.Entry {
	return [][]api.Entry{
		entries("n", "1", "m", "2"),
		entries("n", "1", "n", "1"),
		entries("n", "1", "n", "2"),
		entries("m", "", "n", "1", "n", "1", "o", ""),
		entries("", "", "n", "1"),
		entries("n", "1", "", ""),
		entries("n", string(text(65))),
		entries("n", "1", "o", string(text(65))),
		entries("n", "1", "o"+string(text(16)), "2"),
		append(row(64), entries("n\xff", "1")...),
		row(65),
		row(100),
		slices.Concat(entries("n", "1"), row(70)),
		slices.Repeat(entries("n", "1"), 300),
		entries("", ""),
	}
}

func TestWrongOpsAreBad(t *testing.T) { // P7.3
	for _, o := range wrongOps() {
		for _, l := range [][]api.Entry{nil, entries("n", "1"), entries("a", "", "n", "1", "o", ""), row(64)} {
			stays(t, l, o)
		}
	}
}

func TestWrongListsStay(t *testing.T) { // P7.3
	ops := []api.Op{get("n"), put("n", "1"), put("new", "1"), cas("n", "1", "2"), cas("n", "2", "1"), del("n"), get("other"), del("other"), del("m")}
	for _, kind := range kinds {
		ops = append(ops, least(kind), most(kind))
	}
	for _, l := range wrongLists() {
		for _, o := range append(ops, wrongOps()...) {
			stays(t, l, o)
		}
	}
}

// model is what the service's names are, kept otherwise than the layer keeps them.
type model map[string]string

func (m model) do(o api.Op) (int, string) {
	value, there := m[string(o.Name)]
	switch {
	case o.Kind == api.OpPut && !there && len(m) == 64:
		return api.Full, ""
	case o.Kind == api.OpPut:
		m[string(o.Name)] = string(o.A)
	case !there:
		return api.Missing, ""
	case o.Kind == api.OpGet:
		return api.Yes, value
	case o.Kind == api.OpCas && value != string(o.A):
		return api.Differs, value
	case o.Kind == api.OpCas:
		m[string(o.Name)] = string(o.B)
	case o.Kind == api.OpDelete:
		delete(m, string(o.Name))
	}
	return api.Yes, ""
}

func (m model) entries() []api.Entry {
	var l []api.Entry
	for name, value := range m {
		l = append(l, entries(name, value)...)
	}
	slices.SortFunc(l, func(a, b api.Entry) int { return bytes.Compare(a.Name, b.Name) })
	return l
}

func TestDoOneBehindTheOther(t *testing.T) { // P7.3
	for _, names := range []int{3, 40, 70, 200} {
		random := rand.New(rand.NewSource(int64(names)))
		word := func(most int) []byte { return bytes.Repeat([]byte("v"), random.Intn(most)) }
		var l []api.Entry
		m := model{}
		for range 4000 {
			o := api.Op{Kind: 1 + random.Intn(4), Name: letter(random.Intn(names))}
			// Few deletes, so that the entries get full.
			if o.Kind == api.OpDelete && random.Intn(8) > 0 {
				o.Kind = api.OpPut
			}
			if o.Kind == api.OpPut || o.Kind == api.OpCas {
				o.A = word(3)
			}
			if o.Kind == api.OpCas {
				o.B = word(3)
			}
			before := l
			var result api.Result
			l, result = Do(l, o)
			code, value := m.do(o)
			if result.Code != code || string(result.Value) != value || !sameEntries(l, m.entries()) || !Right(l) {
				t.Fatalf("Do(%q, %v): %q, %v; want code %d with %q", before, o, l, result, code, value)
			}
		}
	}
}

func TestOrderOfPuts(t *testing.T) { // P7.3: the same entries, whichever came first
	names := []string{"d", "a", "aa", "\xff", "\x00", "b"}
	want := entries("\x00", "\x00", "a", "a", "aa", "aa", "b", "b", "d", "d", "\xff", "\xff")
	random := rand.New(rand.NewSource(1))
	for range 100 {
		random.Shuffle(len(names), func(i, j int) { names[i], names[j] = names[j], names[i] })
		var l []api.Entry
		for _, name := range names {
			l, _ = Do(l, put(name, name))
		}
		if !sameEntries(l, want) {
			t.Errorf("puts of %q: %q; want %q", names, l, want)
		}
	}
}
