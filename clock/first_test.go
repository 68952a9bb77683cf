package clock

import (
	"testing"

	"catenary/ballot"
)

// ticksUntil is at which tick, behind so many Slows, a clock's age is at least what is waited for.
func ticksUntil(backoff int, waited func(backoff int) int) int {
	c := clockAt(0, backoff)
	for ticks := 1; ; ticks++ {
		c.Tick()
		if c.Age() >= waited(c.Backoff()) {
			return ticks
		}
	}
}

func accusesAt(backoff, place, quorum int) int {
	return ticksUntil(backoff, func(k int) int { return Accuse(k, place, quorum) })
}

func changesAt(backoff, quorum int) int {
	return ticksUntil(backoff, func(k int) int { return Change(k, quorum) })
}

func TestTicksOfTheWhole(t *testing.T) { // the document's examples 4 and 5: the eighth tick, the fourteenth tick
	if at := accusesAt(0, 0, ballot.Quorum(4)); at != 8 {
		t.Errorf("replica 0 of four accuses at tick %d", at)
	}
	if at := changesAt(0, ballot.Quorum(4)); at != 14 {
		t.Errorf("four replicas change the view at tick %d", at)
	}
}

func TestFurtherDownAccusesFirst(t *testing.T) { // P14.3: of any two active places of each cluster's chain, with each backoff
	for _, n := range []int{4, 7, 10, 13, 16} {
		quorum := ballot.Quorum(n)
		for backoff := range mostBackoff + 3 {
			change := changesAt(backoff, quorum)
			for down := range quorum {
				first := accusesAt(backoff, down, quorum)
				for up := range down {
					if later := accusesAt(backoff, up, quorum); later <= first {
						t.Errorf("n %d, backoff %d: place %d accuses at tick %d, place %d at %d", n, backoff, up, later, down, first)
					}
				}
				if first >= change {
					t.Errorf("n %d, backoff %d: place %d accuses at tick %d, the view is changed at %d", n, backoff, down, first, change)
				}
			}
		}
	}
}

func TestSpareReplicasDoNotWaitLonger(t *testing.T) { // P14.3: those behind the quorum are ahead of every change, too
	for _, n := range []int{4, 7, 10, 13, 16} {
		quorum := ballot.Quorum(n)
		for backoff := range mostBackoff + 1 {
			for place := quorum; place < n; place++ {
				at := accusesAt(backoff, place, quorum)
				if at != accusesAt(backoff, quorum-1, quorum) || at >= changesAt(backoff, quorum) {
					t.Errorf("n %d, backoff %d: place %d accuses at tick %d", n, backoff, place, at)
				}
			}
		}
	}
}

func TestEveryChain(t *testing.T) { // P14.3: of chains as long as counts
	for quorum := range lastPlace + 1 {
		for _, backoff := range []int{-1, 0, 1, 7, 8, 9} {
			for place := range quorum {
				at := Accuse(backoff, place, quorum)
				if place > 0 && at >= Accuse(backoff, place-1, quorum) {
					t.Fatalf("quorum %d, backoff %d: place %d doesn't accuse ahead of the place before it", quorum, backoff, place)
				}
				if at >= Change(backoff, quorum) {
					t.Fatalf("quorum %d, backoff %d: place %d accuses at %d, the view is changed at %d", quorum, backoff, place, at, Change(backoff, quorum))
				}
			}
		}
	}
}

func TestSlowerClocksWaitLonger(t *testing.T) { // P14.1: at each place; so P14.3 speaks of one backoff
	for _, n := range []int{4, 7, 10, 13, 16} {
		quorum := ballot.Quorum(n)
		for backoff := range mostBackoff {
			for place := range quorum {
				if accusesAt(backoff+1, place, quorum) <= accusesAt(backoff, place, quorum) {
					t.Errorf("n %d, place %d: no longer with backoff %d", n, place, backoff+1)
				}
			}
			if changesAt(backoff+1, quorum) <= changesAt(backoff, quorum) {
				t.Errorf("n %d: the view is changed no later with backoff %d", n, backoff+1)
			}
		}
	}
}
