package vote

import (
	"bytes"
	"fmt"
	"math"
	"testing"

	"catenary/api"
)

// asks are clients with keys, more than there may be clients; strangers have none.
var (
	asks      = []int{1, 2, 3, 4, 5, 6, 26, 27}
	strangers = []int{math.MinInt, -101, -100, -99, -1, 0, 28, 29, 100, 101, 127, 128, 1 << 32, 1<<32 + 1, math.MaxInt}
)

// ops are of lengths about the limits.
var ops = [][]byte{nil, {0}, []byte("x"), bytes.Repeat([]byte("o"), 127), bytes.Repeat([]byte("o"), 128), bytes.Repeat([]byte("o"), 255), bytes.Repeat([]byte("o"), 256), bytes.Repeat([]byte("o"), 257), bytes.Repeat([]byte("o"), api.MaxData+1)}

// wantAsk is what a request signs, made without the package.
func wantAsk(r api.Req) []byte {
	return signed(100+r.Client, "request", eights(r.Client, r.Stamp), r.Op)
}

func TestAskWrittenOut(t *testing.T) { // P6.3
	for _, c := range []struct {
		r    api.Req
		want string
	}{
		{api.Req{Client: 2, Stamp: 300, Op: []byte("ab"), Sig: []byte("old")}, "\x04sign\x01\x66\x07request\x10\x02\x00\x00\x00\x00\x00\x00\x00\x2c\x01\x00\x00\x00\x00\x00\x00\x02ab"},
		{api.Req{Client: 27, Stamp: -2}, "\x04sign\x01\x7f\x07request\x10\x1b\x00\x00\x00\x00\x00\x00\x00\xfe\xff\xff\xff\xff\xff\xff\xff\x00"},
	} {
		isText(t, "AskText", AskText(c.r), []byte(c.want))
		got := Ask(c.r)
		isText(t, "Ask's Sig", got.Sig, sum([]byte(c.want)))
		isText(t, "Ask's Op", got.Op, c.r.Op)
		if got.Client != c.r.Client || got.Stamp != c.r.Stamp {
			t.Errorf("Ask(%v) = %v", c.r, got)
		}
	}
}

func TestAsk(t *testing.T) { // P6.3: of each client with a key, whatever it had as Sig
	for _, client := range asks {
		for _, stamp := range numbers {
			for _, op := range ops {
				r := api.Req{Client: client, Stamp: stamp, Op: op}
				what := fmt.Sprintf("client %d, stamp %d, %d bytes", client, stamp, len(op))
				for _, old := range [][]byte{nil, {}, []byte("old"), sum(wantAsk(r))} {
					r.Sig = old
					isText(t, what, AskText(r), wantAsk(r))
					got := Ask(r)
					isText(t, what, got.Sig, sum(wantAsk(r)))
					if got.Client != client || got.Stamp != stamp || !bytes.Equal(got.Op, op) {
						t.Errorf("%s: Ask changed more than Sig", what)
					}
				}
			}
		}
	}
}

func TestAskOfStrangers(t *testing.T) { // P6.3
	for _, client := range strangers {
		r := api.Req{Client: client, Stamp: 1, Op: []byte("x"), Sig: []byte("old")}
		isText(t, "AskText", AskText(r), nil)
		got := Ask(r)
		if got.Client != client || got.Stamp != 1 || string(got.Op) != "x" || len(got.Sig) != 0 {
			t.Errorf("Ask of stranger %d: %v", client, got)
		}
		for _, sig := range [][]byte{nil, hashOfNothing, sum(wantAsk(r))} {
			if r.Sig = sig; Asked(r) {
				t.Errorf("a request of stranger %d is asked", client)
			}
		}
	}
}

func TestAsked(t *testing.T) { // P6.3: the limits
	for _, client := range append(append([]int{}, asks...), strangers...) {
		for _, stamp := range numbers {
			for _, op := range ops {
				want := client >= 1 && client <= 4 && stamp >= 1 && stamp <= 2147483647 && len(op) >= 1 && len(op) <= 256
				if got := Asked(Ask(api.Req{Client: client, Stamp: stamp, Op: op})); got != want {
					t.Errorf("client %d, stamp %d, %d bytes: %v", client, stamp, len(op), got)
				}
			}
		}
	}
	if Asked(api.Req{}) || Asked(Ask(api.Req{})) {
		t.Error("the request that does nothing is asked")
	}
}

func TestAskedNeedsAll(t *testing.T) { // P6.3
	for _, op := range [][]byte{[]byte("x"), []byte("operation"), bytes.Repeat([]byte("o"), 256)} {
		r := Ask(api.Req{Client: 2, Stamp: 7, Op: op})
		for i, sig := range turned(r.Sig) {
			if Asked(api.Req{Client: 2, Stamp: 7, Op: op, Sig: sig}) {
				t.Errorf("asked with Sig %d turned", i)
			}
		}
		for i, other := range turned(op) {
			if Asked(api.Req{Client: 2, Stamp: 7, Op: other, Sig: r.Sig}) {
				t.Errorf("asked with Op %d turned", i)
			}
		}
		for _, n := range numbers {
			if n != 2 && Asked(api.Req{Client: n, Stamp: 7, Op: op, Sig: r.Sig}) {
				t.Errorf("asked for client %d", n)
			}
			if n != 7 && Asked(api.Req{Client: 2, Stamp: n, Op: op, Sig: r.Sig}) {
				t.Errorf("asked with stamp %d", n)
			}
		}
	}
}

func TestAskedByTheKey(t *testing.T) { // P6.3: of this client, in this domain
	r := Ask(api.Req{Client: 2, Stamp: 7, Op: []byte("x")})
	for key := range 128 {
		for _, domain := range []string{"", "vote", "request", "requests", "message", "report"} {
			other := r
			other.Sig = sum(signed(key, domain, eights(2, 7), []byte("x")))
			if got := Asked(other); got != (key == 102 && domain == "request") {
				t.Errorf("asked by key %d in the domain %q: %v", key, domain, got)
			}
		}
	}
}
