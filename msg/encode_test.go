package msg

import (
	"bytes"
	"math"
	"reflect"
	"slices"
	"strconv"
	"testing"

	"catenary/api"
)

// badNumbers are below 0 or above MaxInt, some of them right in their lowest bits.
var badNumbers = []int{-1, -2, -128, -1 << 31, -1 << 32, -1<<32 + 5, math.MinInt, math.MinInt + 5, api.MaxInt + 1, 1<<32 - 1, 1 << 32, 1<<32 + 5, 1 << 35, math.MaxInt}

// noKinds are none of the table's, some of them right in their lowest bits.
func noKinds() []int {
	out := []int{math.MinInt, math.MinInt + 11, -1 << 32, -1<<32 + 11, 1<<31 - 1, 1 << 31, 1 << 32, 1<<32 + 11, 1<<32 + 20, math.MaxInt}
	for kind := -300; kind <= 600; kind++ {
		if !slices.Contains(kinds, kind) {
			out = append(out, kind)
		}
	}
	return out
}

// The texts of what is written out by hand.
var (
	ab    = []byte("ab")
	onlyC = []byte("c")
)

// written has a message of each kind with all its fields set, and some more, and their bytes by hand.
var written = []struct {
	m api.Msg
	b []byte
}{
	{api.Msg{Kind: api.KFetch, Slot: 4, From: 2}, []byte{11, 4, 2}},
	{api.Msg{Kind: api.KRequest, Req: api.Req{Client: 1, Stamp: 2, Op: ab, Sig: onlyC}}, []byte{1, 1, 2, 2, 'a', 'b', 1, 'c'}},
	{api.Msg{Kind: api.KChain, Ballot: api.Ballot{View: 3, Turn: 1}, Slot: 300, Req: api.Req{Client: 4, Stamp: 5, Op: onlyC, Sig: ab}, Votes: []api.Vote{{Signer: 2, Sig: onlyC}, {Signer: 3, Sig: ab}}},
		[]byte{2, 3, 1, 172, 2, 4, 5, 1, 'c', 2, 'a', 'b', 2, 2, 1, 'c', 3, 2, 'a', 'b'}},
	{api.Msg{Kind: api.KAck, Ballot: api.Ballot{View: 1, Turn: 2}, Slot: 3, Req: api.Req{Client: 4, Stamp: 5, Op: ab, Sig: onlyC}, Cert: []api.Vote{{Signer: 6, Sig: onlyC}}, Votes: []api.Vote{{Signer: 7, Sig: ab}}},
		[]byte{3, 1, 2, 3, 4, 5, 2, 'a', 'b', 1, 'c', 1, 6, 1, 'c', 1, 7, 2, 'a', 'b'}},
	{api.Msg{Kind: api.KCommit, Ballot: api.Ballot{View: 1, Turn: 2}, Slot: 3, Req: api.Req{Client: 4, Stamp: 5, Op: ab, Sig: onlyC}, Votes: []api.Vote{{Signer: 6, Sig: onlyC}}},
		[]byte{4, 1, 2, 3, 4, 5, 2, 'a', 'b', 1, 'c', 1, 6, 1, 'c'}},
	{api.Msg{Kind: api.KReply, From: 1, To: 2, Index: 3, Data: ab, Sig: onlyC}, []byte{5, 1, 2, 3, 2, 'a', 'b', 1, 'c'}},
	{api.Msg{Kind: api.KSuspect, Ballot: api.Ballot{View: 1, Turn: 2}, From: 3, To: 4, Sig: ab}, []byte{6, 1, 2, 3, 4, 2, 'a', 'b'}},
	{api.Msg{Kind: api.KTurn, Ballot: api.Ballot{View: 1, Turn: 2}, From: 3, To: 4, Sig: ab, Cert: []api.Vote{{Signer: 5, Sig: onlyC}}},
		[]byte{7, 1, 2, 3, 4, 2, 'a', 'b', 1, 5, 1, 'c'}},
	{api.Msg{Kind: api.KReport, Reports: []api.Report{{Ballot: api.Ballot{View: 1, Turn: 2}, Replica: 3, Low: 4, Digest: ab, Stable: []api.Vote{{Signer: 5, Sig: onlyC}},
		Preps: []api.Prep{{Slot: 6, Ballot: api.Ballot{View: 7, Turn: 8}, Req: api.Req{Client: 9, Stamp: 10, Op: ab, Sig: onlyC}, Cert: []api.Vote{{Signer: 11, Sig: onlyC}}}}, Sig: ab}}},
		[]byte{8, 1, 1, 2, 3, 4, 2, 'a', 'b', 1, 5, 1, 'c', 1, 6, 7, 8, 9, 10, 2, 'a', 'b', 1, 'c', 1, 11, 1, 'c', 2, 'a', 'b'}},
	{api.Msg{Kind: api.KNew, Ballot: api.Ballot{View: 1, Turn: 2}, Sig: ab, Order: []int{0, 1, 4, 5, 2, 6, 3}, Reports: []api.Report{{Replica: 3}, {Low: 4, Sig: onlyC}}},
		[]byte{9, 1, 2, 2, 'a', 'b', 7, 0, 1, 4, 5, 2, 6, 3, 2, 0, 0, 3, 0, 0, 0, 0, 0, 0, 0, 0, 4, 0, 0, 0, 1, 'c'}},
	{api.Msg{Kind: api.KCheck, Slot: 8, Data: ab, Votes: []api.Vote{{Signer: 2, Sig: onlyC}}}, []byte{10, 8, 2, 'a', 'b', 1, 2, 1, 'c'}},
	{api.Msg{Kind: api.KState, Slot: 8, From: 1, Index: 2, Count: 3, Data: ab, Sig: onlyC}, []byte{12, 8, 1, 2, 3, 2, 'a', 'b', 1, 'c'}},
	{api.Msg{Kind: api.KEvidence, Ballot: api.Ballot{View: 1, Turn: 2}, Slot: 3, From: 4, Index: 5, Req: api.Req{Client: 6, Stamp: 7, Op: ab, Sig: onlyC}, Other: api.Req{Client: 8, Stamp: 9, Op: onlyC, Sig: ab}, Data: ab, Sig: onlyC},
		[]byte{13, 1, 2, 3, 4, 5, 6, 7, 2, 'a', 'b', 1, 'c', 8, 9, 1, 'c', 2, 'a', 'b', 2, 'a', 'b', 1, 'c'}},
	{api.Msg{Kind: api.KPromise, Ballot: api.Ballot{View: 128, Turn: api.MaxInt}}, []byte{20, 128, 1, 255, 255, 255, 255, 7}},
	{api.Msg{Kind: api.KEnter, Ballot: api.Ballot{View: 1, Turn: 2}, Slot: 3, Order: []int{1, 0}, Picks: []api.Req{{Client: 4, Stamp: 5, Op: ab, Sig: onlyC}, {}}},
		[]byte{21, 1, 2, 3, 2, 1, 0, 2, 4, 5, 2, 'a', 'b', 1, 'c', 0, 0, 0, 0}},
	{api.Msg{Kind: api.KVote, Ballot: api.Ballot{View: 1, Turn: 2}, Slot: 3, Req: api.Req{Client: 4, Stamp: 5, Op: ab, Sig: onlyC}},
		[]byte{22, 1, 2, 3, 4, 5, 2, 'a', 'b', 1, 'c'}},
	{api.Msg{Kind: api.KPrep, Ballot: api.Ballot{View: 1, Turn: 2}, Slot: 3, Req: api.Req{Client: 4, Stamp: 5, Op: ab, Sig: onlyC}, Cert: []api.Vote{{Signer: 6, Sig: onlyC}}},
		[]byte{23, 1, 2, 3, 4, 5, 2, 'a', 'b', 1, 'c', 1, 6, 1, 'c'}},
	{api.Msg{Kind: api.KDone, Ballot: api.Ballot{View: 1, Turn: 2}, Slot: 3, Req: api.Req{Client: 4, Stamp: 5, Op: ab, Sig: onlyC}, Votes: []api.Vote{{Signer: 6, Sig: onlyC}}},
		[]byte{24, 1, 2, 3, 4, 5, 2, 'a', 'b', 1, 'c', 1, 6, 1, 'c'}},
	{api.Msg{Kind: api.KSave, Slot: 8, Data: ab, Cert: []api.Vote{{Signer: 2, Sig: onlyC}}}, []byte{25, 8, 2, 'a', 'b', 1, 2, 1, 'c'}},
	// What the document's examples of the whole speak of: a request's record and its way to replica 1, an accusation, a new view led by 1, a stable state, a wish for it, two requests at one slot.
	{api.Msg{Kind: api.KVote, Slot: 1, Req: api.Req{Client: 1, Stamp: 1, Op: onlyC}}, []byte{22, 0, 0, 1, 1, 1, 1, 'c', 0}},
	{api.Msg{Kind: api.KChain, Slot: 1, Req: api.Req{Client: 1, Stamp: 1, Op: onlyC}, Votes: []api.Vote{{Sig: ab}}}, []byte{2, 0, 0, 1, 1, 1, 1, 'c', 0, 1, 0, 2, 'a', 'b'}},
	{api.Msg{Kind: api.KSuspect, To: 1, Sig: onlyC}, []byte{6, 0, 0, 0, 1, 1, 'c'}},
	{api.Msg{Kind: api.KTurn, To: 1, Cert: []api.Vote{{}}}, []byte{7, 0, 0, 0, 1, 0, 1, 0, 0}},
	{api.Msg{Kind: api.KNew, Ballot: api.Ballot{View: 1}, Order: []int{1, 2, 3, 0}}, []byte{9, 1, 0, 0, 4, 1, 2, 3, 0, 0}},
	{api.Msg{Kind: api.KSave, Slot: 8, Data: []byte{0}}, []byte{25, 8, 1, 0, 0}},
	{api.Msg{Kind: api.KFetch, Slot: 8, From: 3}, []byte{11, 8, 3}},
	{api.Msg{Kind: api.KEvidence, Slot: 1, Index: api.KChain, Req: api.Req{Op: ab}, Other: api.Req{Op: onlyC}}, []byte{13, 0, 0, 1, 0, 2, 0, 0, 2, 'a', 'b', 0, 0, 0, 1, 'c', 0, 0, 0}},
}

func TestWrittenOut(t *testing.T) { // P5.1 and P5.2
	seen := map[int]bool{}
	for _, w := range written {
		seen[w.m.Kind] = true
		if b, e := Encode(w.m); e != api.OK || !bytes.Equal(b, w.b) {
			t.Errorf("Encode of kind %d: %v, %v; want %v", w.m.Kind, b, e, w.b)
		}
		if m, e := Decode(w.b); e != api.OK || !sameMessage(m, w.m) {
			t.Errorf("Decode of %v: %v, %v; want %v", w.b, m, e, w.m)
		}
	}
	for _, kind := range kinds {
		if !seen[kind] {
			t.Errorf("kind %d isn't written out", kind)
		}
	}
}

func TestZeroFields(t *testing.T) { // P5.1 and P5.2: each kind with all its fields zero is written as so many zeros behind the kind
	zeros := map[int]int{1: 4, 2: 8, 3: 9, 4: 8, 5: 5, 6: 5, 7: 6, 8: 1, 9: 5, 10: 3, 11: 2, 12: 6, 13: 15, 20: 2, 21: 5, 22: 7, 23: 8, 24: 8, 25: 3}
	for _, kind := range kinds {
		want := append([]byte{byte(kind)}, make([]byte, zeros[kind])...)
		if b, e := Encode(api.Msg{Kind: kind}); e != api.OK || !bytes.Equal(b, want) {
			t.Errorf("Encode of kind %d: %v, %v; want %v", kind, b, e, want)
		}
		takes(t, "zero "+strconv.Itoa(kind), api.Msg{Kind: kind})
	}
}

func TestFullFields(t *testing.T) { // P5.1 and P5.2
	for _, kind := range kinds {
		takes(t, "full "+strconv.Itoa(kind), full(kind))
		// Each field alone.
		for _, name := range fieldsHad(kind) {
			m := api.Msg{Kind: kind}
			last := 200
			set(reflect.ValueOf(&m).Elem().FieldByName(name), &last)
			takes(t, strconv.Itoa(kind)+" with "+name+" alone", m)
		}
	}
}

func TestNoKind(t *testing.T) { // P5.1
	for _, kind := range noKinds() {
		refuses(t, "zero "+strconv.Itoa(kind), api.Msg{Kind: kind}, api.ErrMsg)
		for _, other := range kinds {
			m := full(other)
			m.Kind = kind
			refuses(t, strconv.Itoa(kind)+" with the fields of "+strconv.Itoa(other), m, api.ErrMsg)
		}
	}
}

// somethings are values of a type that aren't zero, with as little in them as can be, and some with too much.
func somethings(of reflect.Type) []reflect.Value {
	var out []reflect.Value
	switch of.Kind() {
	case reflect.Int:
		for _, n := range append([]int{1, 2, 128, 256, api.MaxInt}, badNumbers...) {
			out = append(out, reflect.ValueOf(n))
		}
	case reflect.Slice:
		for _, n := range []int{1, 2, api.MaxList, api.MaxList + 1, api.MaxData + 1} {
			out = append(out, reflect.MakeSlice(of, n, n))
		}
	default:
		for i := range of.NumField() {
			for _, part := range somethings(of.Field(i).Type) {
				v := reflect.New(of).Elem()
				v.Field(i).Set(part)
				out = append(out, v)
			}
		}
	}
	return out
}

func TestFieldsNotHad(t *testing.T) { // P5.1
	for _, kind := range kinds {
		for _, m := range []api.Msg{{Kind: kind}, full(kind)} {
			for _, name := range fieldNames {
				if slices.Contains(fieldsHad(kind), name) {
					continue
				}
				v := reflect.ValueOf(&m).Elem().FieldByName(name)
				for _, something := range somethings(v.Type()) {
					v.Set(something)
					refuses(t, strconv.Itoa(kind)+" with "+name, m, api.ErrMsg)
				}
				v.SetZero()
				takes(t, strconv.Itoa(kind)+" without "+name, m)
			}
		}
	}
}

func TestNumbers(t *testing.T) { // P5.1 and P5.2: each number of each kind, within requests, votes, preps and reports too
	for _, kind := range kinds {
		m := full(kind)
		seen := 0
		walkHad(&m, func(path string, v reflect.Value) {
			if v.Kind() != reflect.Int {
				return
			}
			seen++
			for _, n := range []int{0, 1, 127, 128, 16383, 16384, 1<<21 - 1, 1 << 21, 1<<28 - 1, 1 << 28, api.MaxInt - 1, api.MaxInt} {
				v.SetInt(int64(n))
				takes(t, path+" "+strconv.Itoa(n), m)
			}
			for _, n := range badNumbers {
				v.SetInt(int64(n))
				refusesBoth(t, path+" "+strconv.Itoa(n), m)
			}
		})
		if seen == 0 {
			t.Errorf("no number in kind %d", kind)
		}
	}
}

func TestTexts(t *testing.T) { // P5.1 and P5.2: each text of each kind
	for _, kind := range kinds {
		m := full(kind)
		walkHad(&m, func(path string, v reflect.Value) {
			if v.Type() != textType {
				return
			}
			for _, n := range []int{0, 1, 127, 128, 16383, 16384, api.MaxData - 1, api.MaxData} {
				v.SetBytes(bytes.Repeat([]byte{255}, n))
				takes(t, path+" of "+strconv.Itoa(n), m)
			}
			for _, n := range []int{api.MaxData + 1, api.MaxData + 2, 1 << 17} {
				v.SetBytes(bytes.Repeat([]byte{255}, n))
				refusesBoth(t, path+" of "+strconv.Itoa(n), m)
			}
		})
	}
}

func TestLists(t *testing.T) { // P5.1 and P5.2: each list of each kind
	for _, kind := range kinds {
		m := full(kind)
		walkHad(&m, func(path string, v reflect.Value) {
			if v.Kind() != reflect.Slice || v.Type() == textType {
				return
			}
			for _, n := range []int{0, 1, 3, api.MaxList - 1, api.MaxList} {
				v.Set(reflect.MakeSlice(v.Type(), n, n))
				takes(t, path+" of "+strconv.Itoa(n), m)
			}
			for _, n := range []int{api.MaxList + 1, api.MaxList + 2, 127, 128, 256, 1000} {
				v.Set(reflect.MakeSlice(v.Type(), n, n))
				refusesBoth(t, path+" of "+strconv.Itoa(n), m)
			}
		})
	}
}

func TestNilAndEmpty(t *testing.T) { // P5.1: the two are written the same, and neither is something in a field that the kind hasn't
	for _, kind := range kinds {
		m := full(kind)
		walk(reflect.ValueOf(&m).Elem(), strconv.Itoa(kind), func(path string, v reflect.Value) {
			if v.Kind() != reflect.Slice {
				return
			}
			v.SetZero()
			want := spell(m).b
			for what, empty := range map[string]reflect.Value{
				"nil":                   reflect.Zero(v.Type()),
				"empty":                 reflect.MakeSlice(v.Type(), 0, 0),
				"empty with spare room": reflect.MakeSlice(v.Type(), api.MaxData+1, api.MaxData+1).Slice(0, 0),
			} {
				v.Set(empty)
				if b, e := Encode(m); e != api.OK || !bytes.Equal(b, want) {
					t.Errorf("%s is %s: %v, %v; want %v", path, what, b, e, want)
				}
			}
		})
		bare := api.Msg{Kind: kind}
		for _, v := range lists(&bare) {
			v.Set(reflect.MakeSlice(v.Type(), 0, 3))
		}
		takes(t, strconv.Itoa(kind)+" with empty lists and texts everywhere", bare)
	}
}

// votes are so many with texts of this length.
func votes(many, length int) []api.Vote {
	out := make([]api.Vote, many)
	for i := range out {
		out[i] = api.Vote{Signer: i, Sig: bytes.Repeat([]byte{byte(i + 1)}, length)}
	}
	return out
}

// longMessages make messages of as many bytes as are wished, near MaxMsg: each by the length of one of its texts.
var longMessages = map[string]func(t *testing.T, size int) api.Msg{
	"the last text is fitted": func(t *testing.T, size int) api.Msg {
		m := api.Msg{Kind: api.KCommit, Slot: 9, Votes: votes(17, 63000)}
		return fitted(t, &m, &m.Votes[16].Sig, size)
	},
	"an early text is fitted": func(t *testing.T, size int) api.Msg {
		m := api.Msg{Kind: api.KCommit, Slot: 9, Votes: votes(16, 63000)}
		return fitted(t, &m, &m.Req.Op, size)
	},
	"an empty list is last": func(t *testing.T, size int) api.Msg {
		m := api.Msg{Kind: api.KAck, Slot: 9, Cert: votes(17, 63000)}
		return fitted(t, &m, &m.Cert[16].Sig, size)
	},
	"a list of small ones is last": func(t *testing.T, size int) api.Msg {
		m := api.Msg{Kind: api.KAck, Slot: 9, Cert: votes(17, 63000), Votes: votes(64, 1)}
		return fitted(t, &m, &m.Cert[7].Sig, size)
	},
	"a zero request is last": func(t *testing.T, size int) api.Msg {
		m := api.Msg{Kind: api.KEnter, Order: []int{1, 2}, Picks: make([]api.Req, 18)}
		for i := range 16 {
			m.Picks[i] = api.Req{Client: i, Op: make([]byte, 33000), Sig: make([]byte, 30000)}
		}
		return fitted(t, &m, &m.Picks[16].Op, size)
	},
	"preps within reports": func(t *testing.T, size int) api.Msg {
		m := api.Msg{Kind: api.KReport, Reports: make([]api.Report, 4)}
		for i := range m.Reports {
			m.Reports[i] = api.Report{Replica: i, Stable: votes(3, 32), Preps: []api.Prep{{Slot: 1, Cert: votes(4, 63000)}, {Slot: 2}}}
		}
		return fitted(t, &m, &m.Reports[1].Digest, size)
	},
	"many small ones": func(t *testing.T, size int) api.Msg {
		m := api.Msg{Kind: api.KNew, Sig: make([]byte, 65536), Order: []int{0, 1, 2, 3}, Reports: make([]api.Report, 54)}
		for i := range m.Reports {
			m.Reports[i] = api.Report{Replica: i, Preps: make([]api.Prep, 64)}
			for j := range m.Reports[i].Preps {
				m.Reports[i].Preps[j] = api.Prep{Slot: j, Cert: votes(5, 52)}
			}
		}
		return fitted(t, &m, &m.Reports[0].Digest, size)
	},
}

// fitted is the message with as long a text as gives it so many bytes.
func fitted(t *testing.T, m *api.Msg, text *[]byte, size int) api.Msg {
	t.Helper()
	*text = make([]byte, 20000)
	*text = make([]byte, 20000+size-len(spell(*m).b))
	if len(spell(*m).b) != size || len(*text) > api.MaxData {
		t.Fatalf("a text of %d bytes doesn't make %d in all", len(*text), size)
	}
	return *m
}

func TestMaxMsg(t *testing.T) { // P5.1 and P5.2
	for name, long := range longMessages {
		for _, size := range []int{api.MaxMsg - 1, api.MaxMsg} {
			takes(t, name, long(t, size))
		}
		for _, size := range []int{api.MaxMsg + 1, api.MaxMsg + 2, api.MaxMsg + 100} {
			m := long(t, size)
			refuses(t, name, m, api.ErrMsgMany)
			refusesBytes(t, name, spell(m).b, api.ErrMsgMany)
		}
	}
}

func TestWrongIsAheadOfMany(t *testing.T) { // P5.1
	for name, long := range longMessages {
		m := long(t, api.MaxMsg+1)
		places := 0
		walkHad(&m, func(string, reflect.Value) { places++ })
		at := 0
		walkHad(&m, func(path string, v reflect.Value) {
			at++
			// Of very many some are enough, the last one among them.
			if at%(places/150+1) != 0 && at != places {
				return
			}
			spoil(v)
			refuses(t, name+": "+path, m, api.ErrMsg)
		})
		refuses(t, name, m, api.ErrMsgMany)
		m.Count = 1
		refuses(t, name+": a field that it hasn't", m, api.ErrMsg)
		m.Count = 0
		m.Kind = 14
		refuses(t, name+": no kind", m, api.ErrMsg)
	}
}

func TestMuchIsShared(t *testing.T) { // P5.1: what would be some billions of bytes is refused, and what is wrong at its end found
	cert := make([]api.Vote, api.MaxList)
	text := make([]byte, api.MaxData)
	for i := range cert {
		cert[i] = api.Vote{Signer: i, Sig: text}
	}
	preps := make([]api.Prep, api.MaxList)
	for i := range preps {
		preps[i] = api.Prep{Slot: i, Cert: cert}
	}
	m := api.Msg{Kind: api.KReport, Reports: make([]api.Report, api.MaxList)}
	for i := range m.Reports {
		m.Reports[i] = api.Report{Replica: i, Preps: preps}
	}
	refuses(t, "shared", m, api.ErrMsgMany)
	m.Reports[api.MaxList-1].Sig = make([]byte, api.MaxData+1)
	refuses(t, "shared, with a long text at the end", m, api.ErrMsg)
}
