package vote

import (
	"fmt"
	"slices"
	"testing"

	"catenary/api"
)

// ballotPaper is all that a vote is for, beside its signer.
type ballotPaper struct {
	kind int
	b    api.Ballot
	slot int
	body []byte
}

func (p ballotPaper) text(signer int) []byte { return Text(p.kind, p.b, p.slot, p.body, signer) }

func (p ballotPaper) make(signer int) api.Vote { return Make(p.kind, p.b, p.slot, p.body, signer) }

func (p ballotPaper) right(v api.Vote) bool { return Right(p.kind, p.b, p.slot, p.body, v) }

func (p ballotPaper) cert(votes []api.Vote, n int) bool {
	return Cert(p.kind, p.b, p.slot, p.body, votes, n)
}

// want is what is signed, made without the package.
func (p ballotPaper) want(signer int) []byte {
	return signed(signer, "vote", eights(p.kind, p.b.View, p.b.Turn, p.slot), p.body)
}

var paper = ballotPaper{api.KAck, api.Ballot{View: 2, Turn: 1}, 5, []byte("r")}

// papers are no two the same; most part from paper in one thing.
func papers() []ballotPaper {
	out := []ballotPaper{paper}
	for _, n := range numbers {
		for field := range 4 {
			p := paper
			place := []*int{&p.kind, &p.b.View, &p.b.Turn, &p.slot}[field]
			if *place != n {
				*place = n
				out = append(out, p)
			}
		}
	}
	for _, body := range bodies {
		if p := paper; string(body) != string(p.body) {
			p.body = body
			out = append(out, p)
		}
	}
	// These have the numbers of paper, and those of each other, in other places.
	return append(out,
		ballotPaper{2, api.Ballot{View: api.KAck, Turn: 1}, 5, paper.body},
		ballotPaper{api.KAck, api.Ballot{View: 1, Turn: 2}, 5, paper.body},
		ballotPaper{api.KAck, api.Ballot{View: 2, Turn: 5}, 1, paper.body},
		ballotPaper{api.KAck, api.Ballot{View: 5, Turn: 1}, 2, paper.body},
		ballotPaper{}, ballotPaper{slot: 1}, ballotPaper{kind: 1}, ballotPaper{b: api.Ballot{View: 1}}, ballotPaper{b: api.Ballot{Turn: 1}},
		ballotPaper{-1, api.Ballot{View: -1, Turn: -1}, -1, nil},
	)
}

func TestVoteWrittenOut(t *testing.T) { // P6.1
	const head = "\x04sign\x01\x06\x04vote\x20"
	for _, c := range []struct {
		p    ballotPaper
		want string
	}{
		{ballotPaper{2, api.Ballot{View: 3, Turn: 4}, 5, []byte("ab")}, head + "\x02\x00\x00\x00\x00\x00\x00\x00\x03\x00\x00\x00\x00\x00\x00\x00\x04\x00\x00\x00\x00\x00\x00\x00\x05\x00\x00\x00\x00\x00\x00\x00\x02ab"},
		{ballotPaper{-1, api.Ballot{View: -1 << 63, Turn: 1<<63 - 1}, 0x0807060504030201, nil}, head + "\xff\xff\xff\xff\xff\xff\xff\xff\x00\x00\x00\x00\x00\x00\x00\x80\xff\xff\xff\xff\xff\xff\xff\x7f\x01\x02\x03\x04\x05\x06\x07\x08\x00"},
	} {
		isText(t, "Text", c.p.text(6), []byte(c.want))
		v := c.p.make(6)
		isText(t, "Make's Sig", v.Sig, sum([]byte(c.want)))
		if v.Signer != 6 || !c.p.right(api.Vote{Signer: 6, Sig: sum([]byte(c.want))}) {
			t.Errorf("%v: %v", c.p, v)
		}
	}
}

func TestVote(t *testing.T) { // P6.1
	for i, p := range papers() {
		for signer := range 16 {
			what := fmt.Sprintf("paper %d, signer %d", i, signer)
			want := p.want(signer)
			isText(t, what, p.text(signer), want)
			v := p.make(signer)
			isText(t, what, v.Sig, sum(want))
			if v.Signer != signer || !p.right(v) {
				t.Errorf("%s: made by %d; right: %v", what, v.Signer, p.right(v))
			}
		}
	}
}

func TestVoteWithoutKey(t *testing.T) { // P6.1: no text, no Sig, and no vote is right
	for _, p := range papers() {
		for _, signer := range keyless {
			isText(t, "Text", p.text(signer), nil)
			v := p.make(signer)
			if v.Signer != signer || len(v.Sig) != 0 {
				t.Errorf("Make for signer %d: %v", signer, v)
			}
			for _, sig := range [][]byte{nil, {}, hashOfNothing, sum(p.want(signer)), sum(p.want(signer & 15)), sum(p.want(-1))} {
				if p.right(api.Vote{Signer: signer, Sig: sig}) {
					t.Errorf("signer %d with %x is right", signer, sig)
				}
			}
		}
	}
}

func TestVoteForAnother(t *testing.T) { // P6.1 and its example
	all := papers()
	for i, p := range all {
		v := p.make(3)
		for j, other := range all {
			if got := other.right(v); got != (i == j) {
				t.Errorf("a vote for %.80v is right for %.80v: %v", p, other, got)
			}
		}
	}
}

func TestVoteOfAnother(t *testing.T) { // P6.1
	for signer := range 16 {
		v := paper.make(signer)
		for _, other := range append(slices.Clone(keyless), 0, 1, 2, 3, 4, 5, 6, 7, 8, 9, 10, 11, 12, 13, 14, 15) {
			if got := paper.right(api.Vote{Signer: other, Sig: v.Sig}); got != (other == signer) {
				t.Errorf("the vote of %d is right for %d: %v", signer, other, got)
			}
		}
		for i, sig := range turned(v.Sig) {
			if paper.right(api.Vote{Signer: signer, Sig: sig}) {
				t.Errorf("the vote of %d is right with Sig %d turned", signer, i)
			}
		}
	}
}

func TestVoteIsNothingElse(t *testing.T) { // P6.1: the domain counts
	parts := [][]byte{eights(paper.kind, paper.b.View, paper.b.Turn, paper.slot), paper.body}
	for _, domain := range []string{"", "Vote", "votes", "request", "message", "report"} {
		if paper.right(api.Vote{Signer: 3, Sig: sum(signed(3, domain, parts...))}) {
			t.Errorf("a signature in the domain %q is right", domain)
		}
	}
}

func TestEmptyBody(t *testing.T) { // P6.1: nil and empty are one
	none, empty := paper, paper
	none.body, empty.body = nil, []byte{}
	if v := none.make(1); !empty.right(v) || !slices.Equal(v.Sig, empty.make(1).Sig) || !slices.Equal(none.text(1), empty.text(1)) {
		t.Error("unlike for a nil and an empty body")
	}
}
