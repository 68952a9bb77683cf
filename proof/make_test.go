package proof

import (
	"bytes"
	"fmt"
	"math"
	"math/rand"
	"slices"
	"testing"

	"catenary/api"
	"catenary/ledger"
	"catenary/msg"
	"catenary/vote"
)

func TestMakeIsEncode(t *testing.T) { // P16.2
	for from := range replicas {
		for _, index := range []int{2, 3} {
			e := with(func(e *api.Msg) { e.From, e.Index = from, index })
			want, wrong := msg.Encode(e)
			if got, no := Make(e); wrong != api.OK || no != api.OK || !bytes.Equal(got, want) {
				t.Errorf("Make of %v: %v, %v; Encode: %v, %v", e, got, no, want, wrong)
			}
		}
	}
}

func TestMakeOfNothing(t *testing.T) { // P16.2
	unmade(t, "no message", api.Msg{})
	refuses(t, "an evidence without anything", api.Msg{Kind: 13})
	refuses(t, "an evidence with an Index alone", api.Msg{Kind: 13, Index: 2})
	refuses(t, "two requests without votes", api.Msg{Kind: 13, Index: 2, Other: api.Req{Client: 1}})
}

func TestNotWritable(t *testing.T) { // P16.2: numbers below 0 or above MaxInt, though the votes are right for them
	for _, n := range []int{math.MinInt, -1 << 32, -256, -1, greatest + 1, 1 << 32, 1<<32 + 5, math.MaxInt} {
		for i, change := range numberFields() {
			refuses(t, fmt.Sprintf("field %d: %d", i, n), with(func(e *api.Msg) {
				change(e, n)
				inOrder(e)
			}))
		}
	}
}

func TestFieldsThatAnEvidenceHasNot(t *testing.T) { // P16.2: none of them may have anything
	e := evidence()
	for i, change := range []func(e *api.Msg){
		func(e *api.Msg) { e.To = 1 }, func(e *api.Msg) { e.To = -1 }, func(e *api.Msg) { e.Count = 1 }, func(e *api.Msg) { e.Count = math.MinInt },
		func(e *api.Msg) { e.Cert = []api.Vote{{}} }, func(e *api.Msg) { e.Votes = []api.Vote{{Signer: 3, Sig: e.Sig}} },
		func(e *api.Msg) { e.Order = []int{0} }, func(e *api.Msg) { e.Picks = []api.Req{{}} }, func(e *api.Msg) { e.Reports = []api.Report{{}} },
	} {
		unmade(t, fmt.Sprintf("change %d", i), with(change))
	}
	e.Cert, e.Votes, e.Order, e.Picks, e.Reports = []api.Vote{}, []api.Vote{}, []int{}, []api.Req{}, []api.Report{}
	makes(t, "with lists that are empty", e)
	e.Req, e.Other.Sig = api.Req{Op: []byte{}, Sig: []byte{}}, []byte{}
	makes(t, "with texts that are empty", signed(e))
}

func TestMakeKnowsNoN(t *testing.T) { // P16.2: an evidence against a replica that only greater clusters have
	for from := range replicas {
		e := with(func(e *api.Msg) { e.From = from })
		b, wrong := Make(e)
		if wrong != api.OK {
			t.Errorf("Make against replica %d: %v", from, wrong)
		}
		checks(t, "what was made", b, 16, from)
	}
	for _, from := range []int{16, 17, 19, 20} {
		unmade(t, fmt.Sprintf("replica %d", from), with(func(e *api.Msg) { e.From = from }))
	}
}

// convicts tells, as the chapter does, whether an evidence's bytes are a proof with n.
func convicts(e api.Msg, n int) bool {
	for _, number := range []int{e.Ballot.View, e.Ballot.Turn, e.Slot, e.From, e.Index, e.Req.Client, e.Req.Stamp, e.Other.Client, e.Other.Stamp} {
		if number < 0 || number > greatest {
			return false
		}
	}
	return e.Kind == 13 && slices.Contains(rightNs, n) && e.From < n && (e.Index == 2 || e.Index == 3) &&
		bytes.Compare(body(e.Req), body(e.Other)) < 0 &&
		bytes.Equal(e.Sig, sign(e.Index, e.Ballot, e.Slot, e.Req, e.From)) &&
		bytes.Equal(e.Data, sign(e.Index, e.Ballot, e.Slot, e.Other, e.From))
}

// spoil changes one thing of an evidence, or nothing.
func spoil(draw *rand.Rand, e *api.Msg) {
	number := []int{-1, 0, 1, 2, 3, 4, 5, 6, 7, 13, 16, greatest, greatest + 1}[draw.Intn(13)]
	text := [][]byte{nil, {0}, []byte("low"), []byte("top"), e.Sig, e.Data}[draw.Intn(6)]
	request := rising()[draw.Intn(len(rising()))]
	switch draw.Intn(12) {
	case 0:
		e.From = number
	case 1:
		e.Index = number
	case 2:
		e.Slot = number
	case 3:
		e.Ballot.View = number
	case 4:
		e.Ballot.Turn = number
	case 5:
		e.Req = request
	case 6:
		e.Other = request
	case 7:
		e.Sig = text
	case 8:
		e.Data = text
	case 9:
		e.Req, e.Other = e.Other, e.Req
	case 10:
		e.Sig, e.Data = e.Data, e.Sig
	}
}

func TestDrawnEvidences(t *testing.T) { // P16.1, P16.2: changed ahead of the votes and behind them; Make refuses just what Check refuses with n = 16
	draw := rand.New(rand.NewSource(16))
	right, wrong := 0, 0
	for range 20000 {
		e := evidence()
		for range draw.Intn(4) {
			spoil(draw, &e)
		}
		if draw.Intn(4) > 0 {
			e = signed(e)
		}
		for range draw.Intn(2) {
			spoil(draw, &e)
		}
		if n := draw.Intn(20); convicts(e, n) {
			checks(t, "a drawn evidence", spell(e), n, e.From)
		} else {
			refusesWith(t, "a drawn evidence", spell(e), n)
		}
		if convicts(e, 16) {
			right++
			makes(t, "a drawn evidence", e)
		} else {
			wrong++
			refuses(t, "a drawn evidence", e)
		}
	}
	if right < 2000 || wrong < 2000 {
		t.Errorf("%d were right, %d wrong", right, wrong)
	}
}

// told are the evidences of layer 15 for some signers' votes for two requests.
func told(kind int, b api.Ballot, slot int, had, now api.Req, signers ...int) []api.Msg {
	l := ledger.New()
	note := func(r api.Req) []api.Msg {
		var votes []api.Vote
		for _, s := range signers {
			votes = append(votes, vote.Make(kind, b, slot, msg.Body(r), s))
		}
		return l.Note(kind, b, slot, r, votes...)
	}
	note(had)
	return note(now)
}

func TestToldEvidencesAreShown(t *testing.T) { // P16.1, P16.2: whichever of the requests was seen first
	at := api.Ballot{View: 9, Turn: 1}
	for high, second := range rising() {
		for low, first := range rising()[:high] {
			for _, kind := range []int{2, 3} {
				up, down := told(kind, at, 4, first, second, 0, 3, 15), told(kind, at, 4, second, first, 0, 3, 15)
				if len(up) != 3 || len(down) != 3 {
					t.Fatalf("requests %d and %d: told %d and %d", low, high, len(up), len(down))
				}
				for i, e := range slices.Concat(up, down) {
					makes(t, fmt.Sprintf("told of requests %d and %d", low, high), e)
					if e.From != []int{0, 3, 15}[i%3] {
						t.Errorf("told of replica %d", e.From)
					}
				}
			}
		}
	}
}

func TestToldButNotWritable(t *testing.T) { // P16.2: layer 15 takes votes at any numbers, layer 5 doesn't write them all
	low, top := evidence().Req, evidence().Other
	for _, n := range []int{math.MinInt, -1, greatest + 1, math.MaxInt} {
		for _, e := range slices.Concat(told(2, api.Ballot{View: n}, 4, low, top, 3), told(2, api.Ballot{Turn: n}, 4, low, top, 3), told(3, api.Ballot{}, n, low, top, 3), told(3, api.Ballot{}, 4, low, api.Req{Client: n}, 3)) {
			if e.Kind != 13 {
				t.Fatalf("told %v", e)
			}
			refuses(t, fmt.Sprintf("told at %d", n), e)
		}
	}
}

func TestShownIsMadeAgain(t *testing.T) { // P16.1, P16.2: who takes a proof in can hand it on
	for _, e := range told(3, api.Ballot{View: 2}, 8, evidence().Req, evidence().Other, 1, 2, 12) {
		b, wrong := Make(e)
		if wrong != api.OK {
			t.Fatal(wrong)
		}
		read, wrong := msg.Decode(b)
		if wrong != api.OK {
			t.Fatal(wrong)
		}
		if again, wrong := Make(read); wrong != api.OK || !bytes.Equal(again, b) {
			t.Errorf("%v became %v, %v", b, again, wrong)
		}
	}
}
