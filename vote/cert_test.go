package vote

import (
	"bytes"
	"math"
	"slices"
	"testing"

	"catenary/api"
)

// quorums are the numbers of clusters that are right, and of their quorums.
var quorums = map[int]int{4: 3, 7: 5, 10: 7, 13: 9, 16: 11}

// wrongN are beside the numbers of clusters.
var wrongN = []int{math.MinInt, math.MinInt + 4, -4, -1, 0, 1, 2, 3, 5, 6, 8, 9, 11, 12, 14, 15, 17, 18, 19, 22, 1<<32 + 4, math.MaxInt}

// votesOf are votes for paper.
func votesOf(signers ...int) []api.Vote {
	var out []api.Vote
	for _, s := range signers {
		out = append(out, paper.make(s))
	}
	return out
}

// from are so many numbers, from first on.
func from(first, many int) []int {
	var out []int
	for i := range many {
		out = append(out, first+i)
	}
	return out
}

// refuses asks that no certificate is made of the votes.
func refuses(t *testing.T, what string, votes []api.Vote, n int) {
	t.Helper()
	if paper.cert(votes, n) {
		t.Errorf("n %d: a certificate with %s", n, what)
	}
}

func TestCert(t *testing.T) { // P6.2
	for n, q := range quorums {
		for gap := range q + 1 {
			signers := append(from(0, gap), from(n-q+gap, q-gap)...)
			if !paper.cert(votesOf(signers...), n) {
				t.Errorf("n %d: no certificate of %v", n, signers)
			}
			for _, other := range append(wrongN, 4, 7, 10, 13, 16) {
				if other != n {
					refuses(t, "those of another cluster", votesOf(signers...), other)
				}
			}
		}
	}
}

func TestCertOfAnyNumber(t *testing.T) { // P6.2: for each number only its quorum, and for wrong ones none
	for many := range 17 {
		votes := votesOf(from(0, many)...)
		for _, n := range append(wrongN, 4, 7, 10, 13, 16) {
			if got, want := paper.cert(votes, n), many > 0 && quorums[n] == many; got != want {
				t.Errorf("n %d with %d votes: %v", n, many, got)
			}
		}
	}
	for n := range quorums {
		refuses(t, "no votes", nil, n)
		refuses(t, "no votes", []api.Vote{}, n)
	}
}

func TestCertOfSigners(t *testing.T) { // P6.2: all lists of up to 4 of these signers
	signers := []int{-1, 0, 1, 2, 3, 4, 16}
	var try func(list []int)
	try = func(list []int) {
		want := len(list) == 3
		for i, s := range list {
			want = want && s >= 0 && s < 4 && (i == 0 || list[i-1] < s)
		}
		if got := paper.cert(votesOf(list...), 4); got != want {
			t.Errorf("Cert of %v: %v", list, got)
		}
		if len(list) == 4 {
			return
		}
		for _, s := range signers {
			try(append(slices.Clone(list), s))
		}
	}
	try(nil)
}

func TestCertOfWrongSigners(t *testing.T) { // P6.2
	for n, q := range quorums {
		first, last := from(0, q), from(n-q, q)
		refuses(t, "a vote too few", votesOf(first[1:]...), n)
		refuses(t, "a vote too many", votesOf(from(0, q+1)...), n)
		refuses(t, "falling signers", backward(votesOf(first...)), n)
		refuses(t, "a signer from n on", votesOf(append(last[1:], n)...), n)
		for _, none := range keyless {
			refuses(t, "a keyless signer in front", append(votesOf(none), votesOf(first[1:]...)...), n)
			refuses(t, "a keyless signer behind", append(votesOf(first[1:]...), votesOf(none)...), n)
		}
		for i := range q - 1 {
			twice, swapped := slices.Clone(first), slices.Clone(last)
			twice[i+1] = twice[i]
			swapped[i], swapped[i+1] = swapped[i+1], swapped[i]
			refuses(t, "a signer twice", votesOf(twice...), n)
			refuses(t, "two signers swapped", votesOf(swapped...), n)
		}
	}
}

// backward are the votes from the last to the first.
func backward(votes []api.Vote) []api.Vote {
	out := slices.Clone(votes)
	slices.Reverse(out)
	return out
}

func TestCertOfWrongVotes(t *testing.T) { // P6.2: each vote is looked at
	for n, q := range quorums {
		for i := range q {
			votes := votesOf(from(n-q, q)...)
			sig := votes[i].Sig
			for _, wrong := range turned(sig) {
				votes[i].Sig = wrong
				refuses(t, "a Sig turned", votes, n)
			}
			votes[i].Sig = votes[(i+1)%q].Sig
			refuses(t, "another's Sig", votes, n)
			for _, other := range papers()[1:] {
				votes[i] = other.make(votes[i].Signer)
				refuses(t, "a vote for something else", votes, n)
			}
		}
	}
}

func TestCertForAnother(t *testing.T) { // P6.2: kind, View, Turn, slot and body count
	votes := votesOf(0, 2, 3)
	for i, p := range papers() {
		if got := p.cert(votes, 4); got != (i == 0) {
			t.Errorf("Cert for %.80v: %v", p, got)
		}
	}
	empty, none := paper, paper
	empty.body, none.body = []byte{}, nil
	if !empty.cert([]api.Vote{none.make(0), none.make(1), empty.make(2)}, 4) {
		t.Error("an empty and a nil body are unlike")
	}
}

// sameVotes holds two lists of votes against each other.
func sameVotes(a, b []api.Vote) bool {
	return slices.EqualFunc(a, b, func(v, w api.Vote) bool { return v.Signer == w.Signer && bytes.Equal(v.Sig, w.Sig) })
}

func TestSortOfNone(t *testing.T) { // P6.2
	if got := Sort(); len(got) != 0 {
		t.Errorf("Sort of no votes: %v", got)
	}
	if got := Sort([]api.Vote{}...); len(got) != 0 {
		t.Errorf("Sort of no votes: %v", got)
	}
}

func TestSortEveryOrder(t *testing.T) { // P6.2: any numbers are signers here, with any Sig
	want := []api.Vote{{Signer: math.MinInt}, {Signer: -1, Sig: []byte("b")}, {Signer: 0, Sig: []byte("a")}, {Signer: 3}, {Signer: math.MaxInt - 1, Sig: []byte("c")}, {Signer: math.MaxInt}}
	var try func(list, left []api.Vote)
	try = func(list, left []api.Vote) {
		if len(left) == 0 {
			if got := Sort(list...); !sameVotes(got, want) {
				t.Errorf("Sort of %v: %v", list, got)
			}
		}
		for i, v := range left {
			try(append(slices.Clone(list), v), slices.Delete(slices.Clone(left), i, i+1))
		}
	}
	try(nil, want)
}

func TestSortKeepsOrder(t *testing.T) { // P6.2: the votes of one Signer stay as they were
	for many := range 80 {
		var votes, want []api.Vote
		for i := range many {
			votes = append(votes, api.Vote{Signer: i * 7 % 5, Sig: []byte{byte(200 - i)}})
		}
		for signer := range 5 {
			for _, v := range votes {
				if v.Signer == signer {
					want = append(want, v)
				}
			}
		}
		if got := Sort(votes...); !sameVotes(got, want) {
			t.Errorf("Sort of %v: %v", votes, got)
		}
	}
}

func TestSortMakesCertificates(t *testing.T) { // P6.2, with votes as they come
	votes := votesOf(3, 0, 1)
	refuses(t, "votes as they came", votes, 4)
	if !paper.cert(Sort(votes...), 4) {
		t.Error("no certificate of sorted votes")
	}
}
