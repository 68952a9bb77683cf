package choose

import (
	"fmt"
	"slices"
	"testing"

	"catenary/api"
)

// unlike is a right report of a replica of n: each replica tells something else.
func unlike(n, replica int) api.Report {
	r := api.Report{Ballot: now, Replica: replica}
	if replica%3 > 0 {
		r = withLow(r, n, 4*(replica%3))
	}
	for i := range replica % 4 {
		r.Preps = append(r.Preps, prep(n, r.Low+1+3*i, before[i], x()))
	}
	return sealed(r)
}

// reports are those of some replicas of n.
func reports(n int, replicas ...int) []api.Report {
	var out []api.Report
	for _, replica := range replicas {
		out = append(out, unlike(n, replica))
	}
	return out
}

// all asks whether these are a quorum's reports.
func all(t *testing.T, what string, b api.Ballot, l []api.Report, n int, want bool) {
	t.Helper()
	if got := All(b, l, n); got != want {
		t.Errorf("%s: All with n = %d: %v", what, n, got)
	}
}

// quorums are lists of replicas of n, each as many as a quorum.
func quorums(n int) [][]int {
	q := quorum(n)
	var out [][]int
	for gap := range q + 1 {
		out = append(out, append(from(0, gap), from(n-q+gap, q-gap)...))
	}
	return out
}

func TestAll(t *testing.T) { // P18.2: a quorum of n, whoever they are, and of no other n
	for _, n := range rightNs {
		for _, who := range quorums(n) {
			for _, other := range append(wrongNs(), rightNs...) {
				all(t, fmt.Sprintf("reports of %v", who), now, reports(n, who...), other, other == n)
			}
		}
	}
}

func TestAllOfAnyNumber(t *testing.T) { // P18.2: just Quorum of n, and n is right
	var l []api.Report
	for many := range replicas + 1 {
		for _, n := range append(wrongNs(), rightNs...) {
			all(t, fmt.Sprintf("%d bare reports", many), now, l, n, many > 0 && quorum(n) == many)
		}
		r := bare()
		r.Replica = many
		l = append(l, sealed(r))
	}
	for _, n := range append(wrongNs(), rightNs...) {
		all(t, "no reports", now, []api.Report{}, n, false)
		all(t, "no reports, ballot 0 0", api.Ballot{}, nil, n, false)
	}
}

func TestOneLessAndOneMore(t *testing.T) { // P18.2: at each place
	for _, n := range rightNs {
		for _, who := range quorums(n) {
			l := reports(n, who...)
			for i := range l {
				all(t, fmt.Sprintf("reports of %v but the one at %d", who, i), now, slices.Delete(slices.Clone(l), i, i+1), n, false)
			}
			for replica := range n {
				if i, found := slices.BinarySearch(who, replica); !found {
					all(t, fmt.Sprintf("reports of %v and of %d", who, replica), now, slices.Insert(slices.Clone(l), i, unlike(n, replica)), n, false)
				}
			}
		}
	}
}

func TestOrderOfReplicas(t *testing.T) { // P18.2: they rise: all rows of up to 4 of the replicas of 4, and one more
	var try func(row []int)
	try = func(row []int) {
		want := len(row) == 3 && row[0] < row[1] && row[1] < row[2] && row[2] < 4
		all(t, fmt.Sprintf("reports of %v", row), now, reports(4, row...), 4, want)
		for replica := range 5 {
			if len(row) < 4 {
				try(append(slices.Clone(row), replica))
			}
		}
	}
	try(nil)
}

func TestOtherOrders(t *testing.T) { // P18.2
	for _, n := range rightNs {
		for _, who := range quorums(n) {
			l := reports(n, who...)
			for i := 1; i < len(l); i++ {
				swapped := slices.Clone(l)
				swapped[i], swapped[i-1] = swapped[i-1], swapped[i]
				all(t, fmt.Sprintf("reports of %v, %d swapped", who, i), now, swapped, n, false)
				swapped[i] = swapped[i-1]
				all(t, fmt.Sprintf("reports of %v, the one at %d twice", who, i), now, swapped, n, false)
			}
			slices.Reverse(l)
			all(t, fmt.Sprintf("reports of %v that fall", who), now, l, n, false)
		}
	}
}

func TestOtherBallots(t *testing.T) { // P18.2: the Ballot of each is the one that is asked for
	others := []api.Ballot{{}, {View: 5}, {View: 5, Turn: 3}, {View: 5, Turn: 1}, {View: 6, Turn: 2}, {View: 4, Turn: 2}, {View: 2, Turn: 5}, {View: 5, Turn: 1<<32 + 2}, {View: 5, Turn: -2}, {View: -5, Turn: 2}}
	for _, n := range rightNs {
		who := quorums(n)[1]
		for _, b := range others {
			all(t, fmt.Sprintf("reports for %v", now), b, reports(n, who...), n, false)
			l := reports(n, who...)
			for i := range l {
				// Without Preps, so that a lower ballot is as right.
				one := l[i]
				one.Ballot, one.Preps = b, nil
				one = sealed(one)
				is(t, fmt.Sprintf("the report for %v", b), one, n, b.View >= 0 && b.Turn >= 0 && b.Turn <= greatest)
				mixed := slices.Clone(l)
				mixed[i] = one
				all(t, fmt.Sprintf("the report at %d for %v", i, b), now, mixed, n, false)
				all(t, fmt.Sprintf("all others for %v", now), b, mixed, n, false)
			}
			for i := range l {
				l[i].Ballot, l[i].Preps = b, nil
				l[i] = sealed(l[i])
			}
			all(t, fmt.Sprintf("all reports for %v", b), b, l, n, Right(l[0], n))
			all(t, fmt.Sprintf("all reports for %v, not %v", b, now), now, l, n, false)
		}
	}
}

func TestOneThatIsntRight(t *testing.T) { // P18.2: at each place
	for _, n := range rightNs {
		for what, change := range map[string]func(r *api.Report){
			"without a Sig":      func(r *api.Report) { r.Sig = nil },
			"with another's Sig": func(r *api.Report) { *r = sealedBy(*r, (r.Replica+1)%n) },
			"with a bit turned":  func(r *api.Report) { r.Sig[31] ^= 1 },
			"with a Low alone":   func(r *api.Report) { r.Low, r.Preps = r.Low+4, nil; *r = sealed(*r) },
			"with a vote less":   func(r *api.Report) { *r = withLow(*r, n, 4); r.Stable, r.Preps = r.Stable[1:], nil; *r = sealed(*r) },
			"with a Prep too high": func(r *api.Report) {
				r.Preps = []api.Prep{prep(n, r.Low+17, before[0], x())}
				*r = sealed(*r)
			},
			"with a Prep of its ballot": func(r *api.Report) {
				r.Preps = []api.Prep{prep(n, r.Low+1, now, x())}
				*r = sealed(*r)
			},
			"with an unasked request": func(r *api.Report) {
				r.Preps = []api.Prep{prep(n, r.Low+1, before[0], api.Req{Client: 1, Stamp: 1})}
				*r = sealed(*r)
			},
		} {
			for i := range quorum(n) {
				l := reports(n, quorums(n)[1]...)
				all(t, "right reports", now, l, n, true)
				change(&l[i])
				all(t, fmt.Sprintf("the one at %d %s", i, what), now, l, n, false)
			}
		}
	}
}

func TestStrangersReports(t *testing.T) { // P18.2: of a replica that is n or above, or below 0
	for _, n := range rightNs {
		for _, replica := range []int{-1, n, n + 1, replicas, 1 << 32, 1<<32 + 1} {
			l := reports(n, from(0, quorum(n))...)
			at := quorum(n) - 1
			if replica < 0 {
				at = 0
			}
			l[at].Replica = replica
			l[at] = sealed(l[at])
			all(t, fmt.Sprintf("with replica %d", replica), now, l, n, false)
		}
	}
}
