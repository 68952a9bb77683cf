package proof

import (
	"bytes"
	"encoding/binary"
	"fmt"
	"math"
	"slices"
	"testing"

	"catenary/api"
	"catenary/msg"
)

func TestErrors(t *testing.T) { // the section Errors
	if api.ErrProof != 161 {
		t.Errorf("ErrProof is %d", api.ErrProof)
	}
	if _, e := Check(nil, 4); e != 161 {
		t.Errorf("Check of no bytes: %d", e)
	}
	if _, e := Make(api.Msg{}); e != 161 {
		t.Errorf("Make of no evidence: %d", e)
	}
}

func TestNoBytes(t *testing.T) { // the chapter's example
	for _, b := range [][]byte{nil, {}, make([]byte, 0, 9)} {
		refusesBytes(t, "no bytes", b)
	}
}

func TestWrittenOut(t *testing.T) { // P16.1, P16.2: the bytes themselves, with the order of the fields
	e := evidence()
	want := slices.Concat([]byte("\x0d\x05\x06\x07\x03\x02\x01\x08\x03low\x09asked low\x01\x08\x03top\x09asked top\x20"), e.Data, []byte{32}, e.Sig)
	makes(t, "the right evidence", e)
	checks(t, "written out", want, 4, 3)
	if b, wrong := Make(e); wrong != api.OK || !bytes.Equal(b, want) {
		t.Errorf("Make: %v, %v; want %v", b, wrong, want)
	}
}

func TestNoMessages(t *testing.T) { // P16.1
	for kind := range 256 {
		refusesBytes(t, "a number", []byte{byte(kind)})
		refusesBytes(t, "a number and more", append([]byte{byte(kind)}, spell(evidence())[1:20]...))
		refusesBytes(t, "the kind, and one number again and again", append([]byte{13}, bytes.Repeat([]byte{byte(kind)}, 12)...))
	}
	for _, length := range []int{2, 13, 100, 1 << 20, 1<<20 + 1} {
		refusesBytes(t, "zeros", make([]byte, length))
		refusesBytes(t, "ones", bytes.Repeat([]byte{255}, length))
	}
}

func TestCutOff(t *testing.T) { // P16.1: at every place
	whole := spell(evidence())
	for end := range whole {
		refusesBytes(t, fmt.Sprintf("the first %d bytes", end), whole[:end])
		refusesBytes(t, fmt.Sprintf("without the first %d bytes", end+1), whole[end+1:])
		refusesBytes(t, fmt.Sprintf("without byte %d", end), slices.Delete(bytes.Clone(whole), end, end+1))
	}
}

func TestMoreBehind(t *testing.T) { // P16.1
	whole := spell(evidence())
	for _, more := range [][]byte{{0}, {1}, {255}, {0, 0}, whole, make([]byte, 1<<20)} {
		refusesBytes(t, "more behind", slices.Concat(whole, more))
		refusesBytes(t, "more ahead", slices.Concat(more, whole))
	}
	for at := range whole {
		refusesBytes(t, fmt.Sprintf("a byte more at %d", at), slices.Insert(bytes.Clone(whole), at, 0))
	}
}

func TestBehindTheEnd(t *testing.T) { // P16.1: what stands in spare room is not among the bytes
	whole := spell(evidence())
	longer := append(bytes.Clone(whole), 1, 2, 3)
	checks(t, "bytes with more in their spare room", longer[:len(whole)], 4, 3)
	for end := range whole {
		refusesBytes(t, "bytes whose rest is in their spare room", whole[:end])
	}
}

func TestEachBit(t *testing.T) { // P16.1: there is none on which nothing hangs
	for _, e := range []api.Msg{evidence(), with(func(e *api.Msg) { e.From, e.Index, e.Req = 0, 3, api.Req{} })} {
		whole := spell(e)
		makes(t, "ahead of turned bits", e)
		for bit := range 8 * len(whole) {
			turned := bytes.Clone(whole)
			turned[bit/8] ^= 1 << (bit % 8)
			refusesBytes(t, fmt.Sprintf("bit %d turned", bit), turned)
		}
	}
}

func TestNumbersInTwoWays(t *testing.T) { // P16.1: bytes that say the same as the Encode, but aren't it
	e := evidence()
	var at []int
	// The places of all numbers below 128, lengths among them.
	at = append(at, 0, 1, 2, 3, 4, 5, 6, 7, 8)
	next := 8 + 1 + len(e.Req.Op)
	at = append(at, next)
	next += 1 + len(e.Req.Sig)
	at = append(at, next, next+1, next+2)
	next += 2 + 1 + len(e.Other.Op)
	at = append(at, next)
	next += 1 + len(e.Other.Sig)
	at = append(at, next, next+1+len(e.Data))
	whole := spell(e)
	for _, i := range at {
		for _, zeros := range [][]byte{{0}, {128, 0}, {128, 128, 128, 128, 128, 128, 128, 128, 0}} {
			longer := slices.Concat(whole[:i], []byte{whole[i] | 128}, zeros, whole[i+1:])
			if n, _ := binary.Uvarint(longer[i:]); n != uint64(whole[i]) {
				t.Fatalf("the number at %d became %d", i, n)
			}
			refusesBytes(t, fmt.Sprintf("the number at %d in more groups", i), longer)
		}
	}
}

// otherMessages are of all other kinds, with what the right evidence has in the fields that they have.
func otherMessages() []api.Msg {
	e := evidence()
	votes := []api.Vote{{Signer: 3, Sig: e.Sig}, {Signer: 3, Sig: e.Data}}
	reports := []api.Report{{Ballot: e.Ballot, Replica: 3, Low: 7, Preps: []api.Prep{{Slot: 7, Ballot: e.Ballot, Req: e.Req, Cert: votes[:1]}, {Slot: 7, Ballot: e.Ballot, Req: e.Other, Cert: votes[1:]}}}}
	return []api.Msg{
		{Kind: 1, Req: e.Req},
		{Kind: 2, Ballot: e.Ballot, Slot: 7, Req: e.Req, Votes: votes},
		{Kind: 3, Ballot: e.Ballot, Slot: 7, Req: e.Req, Cert: votes, Votes: votes},
		{Kind: 4, Ballot: e.Ballot, Slot: 7, Req: e.Req, Votes: votes},
		{Kind: 5, From: 3, To: 1, Index: 2, Data: e.Data, Sig: e.Sig},
		{Kind: 6, Ballot: e.Ballot, From: 3, To: 1, Sig: e.Sig},
		{Kind: 7, Ballot: e.Ballot, From: 3, To: 1, Sig: e.Sig, Cert: votes},
		{Kind: 8, Reports: reports},
		{Kind: 9, Ballot: e.Ballot, Sig: e.Sig, Order: []int{3, 0, 1, 2}, Reports: reports},
		{Kind: 10, Slot: 7, Data: e.Data, Votes: votes},
		{Kind: 11, Slot: 7, From: 3},
		{Kind: 12, Slot: 7, From: 3, Index: 2, Count: 3, Data: e.Data, Sig: e.Sig},
		{Kind: 20, Ballot: e.Ballot},
		{Kind: 21, Ballot: e.Ballot, Slot: 7, Order: []int{3, 0, 1, 2}, Picks: []api.Req{e.Req, e.Other}},
		{Kind: 22, Ballot: e.Ballot, Slot: 7, Req: e.Req},
		{Kind: 23, Ballot: e.Ballot, Slot: 7, Req: e.Req, Cert: votes},
		{Kind: 24, Ballot: e.Ballot, Slot: 7, Req: e.Req, Votes: votes},
		{Kind: 25, Slot: 7, Data: e.Data, Cert: votes},
	}
}

func TestOtherMessages(t *testing.T) { // P16.1, P16.2: such as can be written, of every other kind
	for _, m := range otherMessages() {
		what := fmt.Sprintf("a message of kind %d", m.Kind)
		b, wrong := msg.Encode(m)
		if wrong != api.OK {
			t.Fatalf("%s can't be written: %v", what, wrong)
		}
		refusesBytes(t, what, b)
		unmade(t, what, m)
	}
}

func TestOtherKinds(t *testing.T) { // P16.1, P16.2: the evidence's own fields under another kind's number
	for _, kind := range []int{math.MinInt, -13, -1, 1<<32 + 13, greatest, greatest + 1, math.MaxInt} {
		refuses(t, fmt.Sprintf("kind %d", kind), but(func(e *api.Msg) { e.Kind = kind }))
	}
	for kind := range 300 {
		if kind != 13 {
			refuses(t, fmt.Sprintf("kind %d", kind), but(func(e *api.Msg) { e.Kind = kind }))
		}
	}
}

func TestEveryN(t *testing.T) { // P16.1: who is accused is one of n, and n is right
	for from := range replicas {
		e := with(func(e *api.Msg) { e.From = from })
		makes(t, fmt.Sprintf("replica %d", from), e)
		for _, n := range wrongNs() {
			refusesWith(t, fmt.Sprintf("replica %d", from), spell(e), n)
		}
	}
}

func TestLastReplica(t *testing.T) { // P16.1: From at n - 1, at n, and above
	for _, n := range rightNs {
		from := func(who int) []byte { return spell(with(func(e *api.Msg) { e.From = who })) }
		checks(t, "the first replica", from(0), n, 0)
		checks(t, "the last replica", from(n-1), n, n-1)
		for who := n; who < n+20; who++ {
			refusesWith(t, fmt.Sprintf("replica %d", who), from(who), n)
		}
	}
}

func TestStrangers(t *testing.T) { // P16.1, P16.2: From below 0, or one without a key, whatever the Sigs are
	hash := []byte("\xe3\xb0\xc4\x42\x98\xfc\x1c\x14\x9a\xfb\xf4\xc8\x99\x6f\xb9\x24\x27\xae\x41\xe4\x64\x9b\x93\x4c\xa4\x95\x99\x1b\x78\x52\xb8\x55")
	for _, from := range []int{math.MinInt, -1 << 32, -1<<32 + 3, -16, -13, -3, -1, 16, 17, 19, 100, 101, 104, 127, 128, 259, 1 << 16, greatest, greatest + 1, 1<<32 + 3, math.MaxInt} {
		what := fmt.Sprintf("From %d", from)
		refuses(t, what, with(func(e *api.Msg) { e.From = from }))
		refuses(t, what+" with 3's Sigs", but(func(e *api.Msg) { e.From = from }))
		for _, sig := range [][]byte{nil, make([]byte, 32), hash} {
			refuses(t, fmt.Sprintf("%s with the Sigs %v", what, sig), but(func(e *api.Msg) { e.From, e.Sig, e.Data = from, sig, sig }))
		}
	}
}

func TestIndex(t *testing.T) { // P16.1: of KChain and KAck alone, though others' votes are as right
	for _, index := range []int{2, 3} {
		for from := range replicas {
			makes(t, fmt.Sprintf("index %d", index), with(func(e *api.Msg) { e.Index, e.From = index, from }))
		}
	}
	others := []int{math.MinInt, -1 << 32, -1<<32 + 2, -3, -2, -1, 1 << 16, 1<<16 + 2, 1<<24 + 3, greatest, greatest + 1, 1<<32 + 2, 1<<32 + 3, math.MaxInt}
	for index := range 600 {
		if index != 2 && index != 3 {
			others = append(others, index)
		}
	}
	for _, index := range others {
		refuses(t, fmt.Sprintf("index %d", index), with(func(e *api.Msg) { e.Index = index }))
	}
}

func TestTheSameTwice(t *testing.T) { // P16.1, P16.2: nothing is wrong with a vote that is seen again
	for i, r := range rising() {
		for _, index := range []int{2, 3} {
			refuses(t, fmt.Sprintf("request %d twice", i), with(func(e *api.Msg) { e.Index, e.Req, e.Other = index, r, r }))
		}
	}
}

func TestOrderOfRequests(t *testing.T) { // P16.1, P16.2: by the bytes of their Bodies
	for high, second := range rising() {
		for low, first := range rising()[:high] {
			if bytes.Compare(body(first), body(second)) >= 0 {
				t.Fatalf("requests %d and %d don't rise", low, high)
			}
			e := with(func(e *api.Msg) { e.Req, e.Other = first, second })
			makes(t, fmt.Sprintf("requests %d and %d", low, high), e)
			e.Req, e.Sig, e.Other, e.Data = e.Other, e.Data, e.Req, e.Sig
			refuses(t, fmt.Sprintf("requests %d and %d", high, low), e)
		}
	}
}

func TestOneFieldDiffers(t *testing.T) { // P16.1: it is enough, the request's own Sig too
	request := func() api.Req {
		return api.Req{Client: 2, Stamp: 3, Op: []byte("operation"), Sig: []byte("signature")}
	}
	for i, change := range []func(r *api.Req){
		func(r *api.Req) { r.Client = 3 }, func(r *api.Req) { r.Client = 258 }, func(r *api.Req) { r.Client = greatest },
		func(r *api.Req) { r.Stamp = 4 }, func(r *api.Req) { r.Stamp = 259 }, func(r *api.Req) { r.Stamp = greatest },
		func(r *api.Req) { r.Op = []byte("operatiow") }, func(r *api.Req) { r.Op = []byte("operation\x00") }, func(r *api.Req) { r.Op = []byte("pperation") },
		func(r *api.Req) { r.Sig = []byte("signaturf") }, func(r *api.Req) { r.Sig = []byte("signature\x00") }, func(r *api.Req) { r.Sig = []byte("tignature") },
		func(r *api.Req) { r.Op, r.Sig = []byte("operations"), []byte("ignature") },
	} {
		second := request()
		change(&second)
		e := with(func(e *api.Msg) { e.Req, e.Other = request(), second })
		makes(t, fmt.Sprintf("change %d", i), e)
		e.Req, e.Sig, e.Other, e.Data = e.Other, e.Data, e.Req, e.Sig
		refuses(t, fmt.Sprintf("change %d, in the wrong order", i), e)
	}
}

func TestAnyNumbers(t *testing.T) { // P16.1: all that can be written will do; nobody asks whether a client ever asked
	for _, n := range []int{0, 1, 2, 15, 16, 127, 128, 1000000, 1000001, greatest - 1, greatest} {
		for i, change := range numberFields() {
			makes(t, fmt.Sprintf("field %d: %d", i, n), with(func(e *api.Msg) {
				change(e, n)
				inOrder(e)
			}))
		}
	}
}

// numberFields set the numbers of an evidence on which nothing is asked but that its votes are for them.
func numberFields() []func(e *api.Msg, n int) {
	return []func(e *api.Msg, n int){
		func(e *api.Msg, n int) { e.Ballot.View = n },
		func(e *api.Msg, n int) { e.Ballot.Turn = n },
		func(e *api.Msg, n int) { e.Slot = n },
		func(e *api.Msg, n int) { e.Req.Client = n },
		func(e *api.Msg, n int) { e.Req.Stamp = n },
		func(e *api.Msg, n int) { e.Other.Client = n },
		func(e *api.Msg, n int) { e.Other.Stamp = n },
	}
}

// inOrder swaps the requests, if they aren't in the order of their Bodies.
func inOrder(e *api.Msg) {
	if bytes.Compare(body(e.Req), body(e.Other)) > 0 {
		e.Req, e.Other = e.Other, e.Req
	}
}

func TestLongTexts(t *testing.T) { // P16.1: up to MaxData, all four at once too
	long := bytes.Repeat([]byte("l"), longest)
	longer := append(bytes.Clone(long), 'l')
	above := append(bytes.Clone(long[1:]), 'm')
	makes(t, "four long texts", with(func(e *api.Msg) {
		e.Req = api.Req{Op: long, Sig: long}
		e.Other = api.Req{Op: long, Sig: above}
	}))
	for i, set := range []func(e *api.Msg, text []byte){
		func(e *api.Msg, text []byte) { e.Req.Op = text },
		func(e *api.Msg, text []byte) { e.Req.Sig = text },
		func(e *api.Msg, text []byte) { e.Other.Op = text },
		func(e *api.Msg, text []byte) { e.Other.Sig = text },
	} {
		makes(t, fmt.Sprintf("long text %d", i), with(func(e *api.Msg) {
			set(e, long)
			inOrder(e)
		}))
		refuses(t, fmt.Sprintf("text %d is too long", i), with(func(e *api.Msg) {
			set(e, longer)
			inOrder(e)
		}))
	}
}

func TestCheckHangsOnItsArguments(t *testing.T) { // P16.1, P2: whatever was asked ahead, or refused
	right := spell(evidence())
	other := spell(with(func(e *api.Msg) { e.From, e.Index = 12, 3 }))
	wrong := spell(but(func(e *api.Msg) { e.Slot++ }))
	for range 3 {
		for _, n := range append(wrongNs(), rightNs...) {
			Check(wrong, n)
			refusesWith(t, "a wrong one behind others", wrong, 4)
			Check(other, n)
			checks(t, "a right one behind others", right, 4, 3)
			Make(but(func(e *api.Msg) { e.From = 4 }))
			checks(t, "another right one", other, 13, 12)
		}
	}
}
