package clock

import (
	"fmt"
	"math"
	"math/rand"
	"testing"
)

func TestNew(t *testing.T) { // P14.2
	shows(t, "a new clock", New(), 0, 0)
}

func TestTick(t *testing.T) { // P14.2: the age is one more each time, the backoff stays
	for backoff := range mostBackoff + 1 {
		c := clockAt(0, backoff)
		for age := range 3000 {
			shows(t, "behind ticks", c, age, backoff)
			c.Tick()
		}
	}
}

func TestTickUpToTheGreatestAge(t *testing.T) { // P14.2: MaxInt, and no further
	for _, backoff := range []int{0, 1, mostBackoff} {
		c := aged(greatestAge-3, backoff)
		for _, age := range []int{greatestAge - 2, greatestAge - 1, greatestAge, greatestAge, greatestAge} {
			c.Tick()
			shows(t, "behind a tick", c, age, backoff)
		}
		for range 1000 {
			c.Tick()
		}
		shows(t, "behind ticks past MaxInt", c, greatestAge, backoff)
	}
}

func TestTheGreatestAgeEnds(t *testing.T) { // P14.2: by Reset, Slow and Done, and ticks count from 0 again
	for backoff := range mostBackoff + 1 {
		c := aged(greatestAge, backoff)
		c.Reset()
		shows(t, "Reset at MaxInt", c, 0, backoff)
		c.Tick()
		shows(t, "a tick behind it", c, 1, backoff)

		c = aged(greatestAge, backoff)
		c.Slow()
		shows(t, "Slow at MaxInt", c, 0, min(mostBackoff, backoff+1))

		c = aged(greatestAge, backoff)
		c.Done()
		shows(t, "Done at MaxInt", c, 0, 0)
	}
}

func TestTheGreatestAgeIsLongEnough(t *testing.T) { // P14.1, P14.2: no wait is longer than an age can be
	for _, n := range []int{Wait(math.MaxInt), Accuse(math.MaxInt, math.MinInt, math.MaxInt), Change(math.MaxInt, math.MaxInt)} {
		if aged(greatestAge, 0).Age() < n {
			t.Errorf("no clock ever waits for %d ticks", n)
		}
	}
}

func TestReset(t *testing.T) { // P14.2: the age is 0, the backoff stays
	for backoff := range mostBackoff + 1 {
		for _, age := range []int{0, 1, 2, 50} {
			c := clockAt(age, backoff)
			shows(t, "ahead of Reset", c, age, backoff)
			for range 3 {
				c.Reset()
				shows(t, "behind Reset", c, 0, backoff)
			}
			c.Tick()
			shows(t, "a tick behind Reset", c, 1, backoff)
		}
	}
}

func TestSlow(t *testing.T) { // P14.2: the age is 0, the backoff one more, up to MaxBackoff and no further
	c := New()
	for times, backoff := range []int{1, 2, 3, 4, 5, 6, 7, 8, 8, 8, 8} {
		for range times {
			c.Tick()
		}
		c.Slow()
		shows(t, fmt.Sprintf("Slow %d times", times+1), c, 0, backoff)
	}
	for range 1000 {
		c.Slow()
	}
	shows(t, "behind Slow, often", c, 0, mostBackoff)
}

func TestDone(t *testing.T) { // P14.2: both are 0, whatever they were
	for slow := range mostBackoff + 3 {
		for _, age := range []int{0, 1, 50} {
			c := clockAt(age, slow)
			for range 3 {
				c.Done()
				shows(t, "behind Done", c, 0, 0)
			}
			c.Tick()
			c.Slow()
			shows(t, "Slow behind Done", c, 0, 1)
		}
	}
}

func TestWaitingDoubles(t *testing.T) { // P14.1, P14.2: with each Slow, while nothing goes on
	c := New()
	for _, want := range append(waits(), 1024, 1024) {
		asksWait(t, c.Backoff(), want)
		for range want {
			c.Tick()
		}
		shows(t, "at the end of a wait", c, want, c.Backoff())
		c.Slow()
	}
	c.Done()
	asksWait(t, c.Backoff(), 4)
}

func TestClocksAreApart(t *testing.T) { // P2: what is done to one clock doesn't touch another
	one, two, three := New(), New(), New()
	if one == two || two == three || one == three {
		t.Fatal("New told one clock twice")
	}
	one.Tick()
	one.Slow()
	one.Tick()
	one.Tick()
	shows(t, "another clock", two, 0, 0)
	two.Slow()
	two.Slow()
	two.Tick()
	shows(t, "the first clock", one, 2, 1)
	shows(t, "the third clock", three, 0, 0)
	one.Reset()
	shows(t, "another clock behind Reset", two, 1, 2)
	one.Slow()
	shows(t, "another clock behind Slow", two, 1, 2)
	one.Done()
	shows(t, "another clock behind Done", two, 1, 2)
	shows(t, "the clock that is done", one, 0, 0)
	shows(t, "a newer clock", New(), 0, 0)
}

// calls are a clock's calls that change it.
func calls() []struct {
	name string
	do   func(c *Clock)
} {
	return []struct {
		name string
		do   func(c *Clock)
	}{{"Tick", (*Clock).Tick}, {"Reset", (*Clock).Reset}, {"Slow", (*Clock).Slow}, {"Done", (*Clock).Done}}
}

// read tells age and backoff by all that was done so far, as the chapter says it.
func read(done []string) (age, backoff int) {
	for i := len(done) - 1; i >= 0 && done[i] == "Tick"; i-- {
		age++
	}
	for i := len(done) - 1; i >= 0 && done[i] != "Done"; i-- {
		if done[i] == "Slow" && backoff < mostBackoff {
			backoff++
		}
	}
	return age, backoff
}

func TestAllShortRows(t *testing.T) { // P14.2: every row of up to six calls
	for long := range 7 {
		rows := 1 << (2 * long)
		for row := range rows {
			c, done := New(), []string(nil)
			for i := range long {
				one := calls()[row>>(2*i)&3]
				one.do(c)
				done = append(done, one.name)
			}
			age, backoff := read(done)
			shows(t, fmt.Sprint("behind ", done), c, age, backoff)
		}
	}
}

func TestDrawnRows(t *testing.T) { // P14.2: long rows of calls to several clocks, ticks and Slow often, Done seldom
	draw := rand.New(rand.NewSource(14))
	greatest := 0
	for range 200 {
		clocks, done := []*Clock{New(), New(), New()}, make([][]string, 3)
		for range 300 {
			which := draw.Intn(3)
			one := calls()[[]int{0, 0, 0, 0, 0, 0, 0, 0, 1, 1, 2, 2, 2, 2, 2, 3}[draw.Intn(16)]]
			one.do(clocks[which])
			done[which] = append(done[which], one.name)
			for i, c := range clocks {
				age, backoff := read(done[i])
				shows(t, fmt.Sprint("behind ", done[i]), c, age, backoff)
				greatest = max(greatest, backoff)
			}
		}
	}
	if greatest != mostBackoff {
		t.Errorf("no backoff above %d", greatest)
	}
}
