package chain

import (
	"fmt"
	"math/rand"
	"testing"

	"catenary/api"
)

// cluster is all replicas of n, and the messages between them that are on their way.
type cluster struct {
	replicas []*Core
	way      []api.Act
	replies  []api.Act
	checks   []api.Act
}

func newCluster(t *testing.T, n int) *cluster {
	t.Helper()
	l := &cluster{}
	for me := range n {
		l.replicas = append(l.replicas, core(t, n, me))
	}
	return l
}

// put sorts what a replica told.
func (l *cluster) put(acts []api.Act) {
	for _, a := range acts {
		switch {
		case a.Msg.Kind == replyKind:
			l.replies = append(l.replies, a)
		case a.Msg.Kind == checkKind:
			l.checks = append(l.checks, a)
		case a.To >= 0:
			l.way = append(l.way, a)
		}
	}
}

// step hands over the message at a place.
func (l *cluster) step(at int) {
	a := l.way[at]
	l.way = append(l.way[:at:at], l.way[at+1:]...)
	l.put(l.replicas[a.To].Take(a.Msg))
}

// agree asks that all have done these requests.
func (l *cluster) agree(t *testing.T, what string, row ...api.Req) {
	t.Helper()
	want := after(api.App{}, row...)
	for me, c := range l.replicas {
		if s := c.State(); !equal(s.App, want) || len(s.Pending) != 0 {
			t.Fatalf("%s: replica %d is at %+v with %v", what, me, s.App, s.Pending)
		}
	}
}

func TestRun(t *testing.T) { // P21.3 to P21.7: a request asked of the head is done by all, each tells the client, and at every fourth slot all
	for _, n := range rightNs {
		l := newCluster(t, n)
		var row []api.Req
		for i := range open {
			r := put(1+i%4, 1+i/4)
			row = append(row, r)
			l.put(l.replicas[0].Ask(r))
			for many := 0; len(l.way) > 0; many++ {
				l.step(0)
				if many > 4*n {
					t.Fatalf("%d messages and more", many)
				}
			}
			what := fmt.Sprintf("request %d of %d", i, n)
			l.agree(t, what, row...)
			if len(l.replies) != n*(i+1) || len(l.checks) != n*n*((i+1)/4) {
				t.Fatalf("%s: %d replies, %d checks", what, len(l.replies), len(l.checks))
			}
		}
		for me, c := range l.replicas {
			s := c.State()
			if s.Slots[0].HasVote != (me < quorum(n)) || s.Slots[0].HasPrep != (me < quorum(n)) || !s.Slots[15].HasDone || !equal(s.Slots[7].Votes, votes(ackKind, b00, 8, body(row[7]), from(0, quorum(n))...)) {
				t.Errorf("replica %d of %d: %+v", me, n, s.Slots[0])
			}
		}
	}
}

func TestRunInAnyOrder(t *testing.T) { // P21.3 to P21.7: messages that come in any order, and twice, do no harm
	for seed := range int64(30) {
		draw := rand.New(rand.NewSource(seed))
		n := rightNs[draw.Intn(3)]
		l := newCluster(t, n)
		var row []api.Req
		for i := range 12 {
			r := put(1+i%4, 1+i/4)
			row = append(row, r)
			l.put(l.replicas[0].Ask(r))
		}
		for len(l.way) > 0 {
			at := draw.Intn(len(l.way))
			if draw.Intn(30) == 0 {
				l.way = append(l.way, l.way[at])
			}
			l.step(at)
		}
		l.agree(t, fmt.Sprint("seed ", seed), row...)
		for me, c := range l.replicas {
			remade(t, fmt.Sprintf("seed %d, replica %d", seed, me), n, me, c)
		}
	}
}

func TestRunWithAnotherHead(t *testing.T) { // P21.8: what was asked of all and never proposed is done once another one leads
	l := newCluster(t, 7)
	row := []api.Req{put(3, 1), put(1, 1), put(4, 1)}
	l.put(l.replicas[0].Ask(row[0]))
	for _, c := range l.replicas[1:] {
		l.put(c.Ask(row[2]))
		l.put(c.Ask(row[1]))
	}
	for len(l.way) > 0 {
		l.step(0)
	}
	for _, c := range l.replicas {
		l.put(c.Promise(b10))
		l.put(c.Enter(b10, 1, around(1, 7)))
	}
	for len(l.way) > 0 {
		l.step(0)
	}
	l.agree(t, "another head", row...)
}
