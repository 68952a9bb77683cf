package ledger

import (
	"bytes"
	"fmt"
	"math"
	"reflect"
	"strings"
	"testing"

	"catenary/api"
	"catenary/msg"
	"catenary/vote"
)

// theOne is the one evidence that was told.
func theOne(t *testing.T, told []api.Msg) api.Msg {
	t.Helper()
	if len(told) != 1 {
		t.Fatalf("%d evidences", len(told))
	}
	return told[0]
}

func TestEvidenceWrittenOut(t *testing.T) { // P15.1: what each field is, and that the others are zero
	at := paper{3, api.Ballot{View: 7, Turn: 8}, 9}
	low := api.Req{Client: 1, Stamp: 2, Op: []byte("low"), Sig: []byte("asked low")}
	high := api.Req{Client: 1, Stamp: 2, Op: []byte("top"), Sig: []byte("asked top")}
	for _, order := range [][2]api.Req{{low, high}, {high, low}} {
		l := New()
		at.note(l, order[0], 5)
		e := theOne(t, at.note(l, order[1], 5))
		if e.Kind != 13 || e.Index != 3 || e.Ballot.View != 7 || e.Ballot.Turn != 8 || e.Slot != 9 || e.From != 5 {
			t.Errorf("%+v", e)
		}
		if e.Req.Client != 1 || e.Req.Stamp != 2 || string(e.Req.Op) != "low" || string(e.Req.Sig) != "asked low" || !bytes.Equal(e.Sig, at.vote(low, 5).Sig) {
			t.Errorf("the request whose Body comes first: %+v with %v", e.Req, e.Sig)
		}
		if e.Other.Client != 1 || e.Other.Stamp != 2 || string(e.Other.Op) != "top" || string(e.Other.Sig) != "asked top" || !bytes.Equal(e.Data, at.vote(high, 5).Sig) {
			t.Errorf("the other request: %+v with %v", e.Other, e.Data)
		}
		if e.To != 0 || e.Count != 0 || len(e.Cert) != 0 || len(e.Votes) != 0 || len(e.Order) != 0 || len(e.Picks) != 0 || len(e.Reports) != 0 {
			t.Errorf("a field that an evidence hasn't: %+v", e)
		}
	}
}

func TestEvidenceOfMsg(t *testing.T) { // P15.1: it is a message that can be written, and anybody can check both its votes
	for s := range signers {
		for _, p := range []paper{chain, ack} {
			l := New()
			p.note(l, b(), s)
			e := theOne(t, p.note(l, a(), s))
			written, no := msg.Encode(e)
			read, neither := msg.Decode(written)
			if no != api.OK || neither != api.OK || spell([]api.Msg{read}) != spell([]api.Msg{e}) {
				t.Errorf("Encode of %+v: %v; Decode of that: %v", e, no, neither)
			}
			for _, v := range []struct {
				r   api.Req
				sig []byte
			}{{e.Req, e.Sig}, {e.Other, e.Data}} {
				if !vote.Right(e.Index, e.Ballot, e.Slot, msg.Body(v.r), api.Vote{Signer: e.From, Sig: v.sig}) {
					t.Errorf("a vote for %+v isn't Right", v.r)
				}
			}
		}
	}
}

func TestRisingRequests(t *testing.T) { // that the tests' requests are in the order in which they stand
	for i, r := range rising() {
		if !bytes.Equal(body(r), msg.Body(r)) {
			t.Errorf("the Body of request %d: %v", i, msg.Body(r))
		}
		if i > 0 && bytes.Compare(body(rising()[i-1]), body(r)) >= 0 {
			t.Errorf("request %d isn't above the one before it", i)
		}
	}
}

func TestOrderOfBodies(t *testing.T) { // P15.1: of any two requests the one whose Body comes first is Req, whichever was first seen
	for high, second := range rising() {
		for low, first := range rising()[:high] {
			what := fmt.Sprintf("requests %d and %d", low, high)
			l := New()
			tells(t, what, l, ack.note(l, first, 6), 1)
			tells(t, what, l, ack.note(l, second, 6), 1, ack.evidence(6, first, second))
			l = New()
			tells(t, what, l, ack.note(l, second, 6), 1)
			tells(t, what, l, ack.note(l, first, 6), 1, ack.evidence(6, first, second))
		}
	}
}

func TestOneFieldDiffers(t *testing.T) { // P15.1: requests are the same only if all their fields are
	request := func() api.Req {
		return api.Req{Client: 2, Stamp: 3, Op: []byte("operation"), Sig: []byte("signature")}
	}
	had := request()
	for field := range reflect.TypeFor[api.Req]().NumField() {
		for _, other := range []any{0, 1, 7, -1, 2 + 1<<32, 3 + 1<<32, math.MinInt, "", "o", "s", "operatiom", "operationn", "peration", "signaturf", "signaturee", "ignature", strings.Repeat("l", 300)} {
			r := request()
			v := reflect.ValueOf(&r).Elem().Field(field)
			switch n, isNumber := other.(int); {
			case isNumber && v.Kind() == reflect.Int:
				v.SetInt(int64(n))
			case !isNumber && v.Kind() == reflect.Slice:
				v.SetBytes([]byte(other.(string)))
			default:
				continue
			}
			l, what := New(), fmt.Sprintf("field %d: %v", field, other)
			first, second := firstOf(had, r)
			tells(t, what, l, chain.note(l, had, 0), 1)
			tells(t, what, l, chain.note(l, r, 0), 1, chain.evidence(0, first, second))
			tells(t, what, l, chain.note(l, request(), 0), 1)
		}
	}
}

func TestBytesMoveBetweenOpAndSig(t *testing.T) { // P15.1: requests whose texts are the same in all are unlike still
	had := api.Req{Client: 1, Stamp: 1, Op: []byte("ab"), Sig: []byte("cd")}
	for _, r := range []api.Req{{Client: 1, Stamp: 1, Op: []byte("a"), Sig: []byte("bcd")}, {Client: 1, Stamp: 1, Op: []byte("abc"), Sig: []byte("d")}, {Client: 1, Stamp: 1, Op: []byte("abcd")}, {Client: 1, Stamp: 1, Sig: []byte("abcd")}, {Client: 1, Stamp: 1, Op: []byte("cd"), Sig: []byte("ab")}} {
		l := New()
		first, second := firstOf(had, r)
		chain.note(l, had, 0)
		tells(t, fmt.Sprint(r), l, chain.note(l, r, 0), 1, chain.evidence(0, first, second))
	}
}

func TestThirdRequest(t *testing.T) { // P15.1: a conflict is told the first time alone, in every order of three
	three := []api.Req{a(), b(), c()}
	for _, order := range [][3]int{{0, 1, 2}, {0, 2, 1}, {1, 0, 2}, {1, 2, 0}, {2, 0, 1}, {2, 1, 0}} {
		l, what := New(), fmt.Sprint("order ", order)
		first, second := firstOf(three[order[0]], three[order[1]])
		tells(t, what, l, chain.note(l, three[order[0]], 8), 1)
		tells(t, what, l, chain.note(l, three[order[1]], 8), 1, chain.evidence(8, first, second))
		for range 2 {
			for _, i := range []int{2, 1, 0, 2} {
				tells(t, what+" again", l, chain.note(l, three[order[i]], 8), 1)
			}
		}
	}
}

func TestToldOfOneAlone(t *testing.T) { // P15.1: a conflict told of one kind, ballot, slot and signer leaves those of others to be told
	for i, p := range papers() {
		l := New()
		for _, q := range papers() {
			q.note(l, b(), 1, 2)
		}
		kept := 2 * len(papers())
		tells(t, fmt.Sprintf("paper %d", i), l, p.note(l, a(), 1), kept, p.evidence(1, a(), b()))
		for k, q := range papers() {
			want := q.evidences(a(), b(), 1, 2)
			if k == i {
				want = want[1:]
			}
			tells(t, fmt.Sprintf("paper %d behind paper %d", k, i), l, q.note(l, a(), 1, 2), kept, want...)
		}
	}
}

func TestGreatRequests(t *testing.T) { // P15.1: of any length, beyond what can be written as a message
	first := api.Req{Op: bytes.Repeat([]byte("g"), api.MaxMsg+1), Sig: bytes.Repeat([]byte("s"), api.MaxData+1)}
	second := first
	second.Sig = append(bytes.Clone(first.Sig[:len(first.Sig)-1]), 't')
	l := New()
	tells(t, "a great request", l, chain.note(l, second, 1), 1)
	tells(t, "a great request again", l, chain.note(l, second, 1), 1)
	got := chain.note(l, first, 1)
	e := theOne(t, got)
	if !bytes.Equal(e.Req.Op, first.Op) || !bytes.Equal(e.Req.Sig, first.Sig) || !bytes.Equal(e.Other.Op, second.Op) || !bytes.Equal(e.Other.Sig, second.Sig) {
		t.Error("the evidence has other requests")
	}
}
