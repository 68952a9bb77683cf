package fetch

import (
	"bytes"
	"fmt"
	"math"
	"testing"

	"catenary/api"
)

// right is the piece from which wrong ones part in one thing alone: of a fetch of 4 that wants slot 8.
func right() api.Msg { return piece(8, 1, 1, 2, "b") }

// odd are numbers of all sizes.
func odd() []int {
	return []int{math.MinInt, math.MinInt + 1, -1 << 32, math.MinInt32, -1, 0, 1, 2, 3, 4, 5, 8, 15, 16, 63, 64, 65, 101, greatest, greatest + 1, 1 << 32, 1<<32 + 1, 1<<32 + 2, 1<<32 + 8, math.MaxInt}
}

// wrongNumbers have one number that isn't a right one's, each by what that is; they are signed as they are.
func wrongNumbers() map[string]api.Msg {
	out := map[string]api.Msg{}
	put := func(what string, wrong bool, change func(m *api.Msg)) {
		m := right()
		change(&m)
		if wrong {
			out[what] = seal(m, m.From)
		}
	}
	for _, n := range odd() {
		put(fmt.Sprint("Kind ", n), n != 12, func(m *api.Msg) { m.Kind = n })
		put(fmt.Sprint("Slot ", n), n != 8, func(m *api.Msg) { m.Slot = n })
		put(fmt.Sprint("From ", n), n < 0 || n > 3, func(m *api.Msg) { m.From = n })
		put(fmt.Sprint("Index ", n), n < 0 || n > 1, func(m *api.Msg) { m.Index = n })
		put(fmt.Sprint("Count ", n), n < 2 || n > 64, func(m *api.Msg) { m.Count = n })
	}
	for kind := range 30 {
		put(fmt.Sprint("Kind ", kind), kind != 12, func(m *api.Msg) { m.Kind = kind })
	}
	for _, many := range []int{257, 258, 511, 512, 513, 65536, 65536 + 1, 65536 + 256, 1 << 20} {
		put(fmt.Sprint("Data of ", many), true, func(m *api.Msg) { m.Data = []byte(long(many)) })
	}
	return out
}

// wrongFields have something in a field that a piece hasn't, and the right piece's signature.
func wrongFields() map[string]api.Msg {
	req, votes := api.Req{Client: 1, Stamp: 1, Op: []byte("a")}, []api.Vote{{}}
	out := map[string]api.Msg{}
	for what, change := range map[string]func(m *api.Msg){
		"a View": func(m *api.Msg) { m.Ballot.View = 1 }, "a Turn": func(m *api.Msg) { m.Ballot.Turn = 1 }, "a To": func(m *api.Msg) { m.To = 1 },
		"a Req": func(m *api.Msg) { m.Req = req }, "an Other": func(m *api.Msg) { m.Other = req }, "a Req with Sig alone": func(m *api.Msg) { m.Req.Sig = []byte{0} },
		"a Cert": func(m *api.Msg) { m.Cert = votes }, "Votes": func(m *api.Msg) { m.Votes = votes }, "an Order": func(m *api.Msg) { m.Order = []int{0} },
		"Picks": func(m *api.Msg) { m.Picks = []api.Req{{}} }, "Reports": func(m *api.Msg) { m.Reports = []api.Report{{}} },
	} {
		m := right()
		change(&m)
		out[what] = m
	}
	return out
}

// wrongSigs are the right piece with another signature.
func wrongSigs() map[string]api.Msg {
	sig := right().Sig
	sigs := map[string][]byte{
		"no Sig": nil, "an empty Sig": {}, "zeros": make([]byte, 32), "a Sig cut short": sig[:31], "a Sig cut in front": sig[1:], "a Sig of one byte": sig[:1],
		"a longer Sig": append(bytes.Clone(sig), 0), "a Sig twice": append(bytes.Clone(sig), sig...), "its Data as Sig": right().Data,
		"a Sig of another slot": piece(4, 1, 1, 2, "b").Sig, "a Sig from another": piece(8, 2, 1, 2, "b").Sig, "a Sig of another Index": piece(8, 1, 0, 2, "b").Sig,
		"a Sig of another Count": piece(8, 1, 1, 3, "b").Sig, "a Sig of other Data": piece(8, 1, 1, 2, "c").Sig, "a Sig of no Data": piece(8, 1, 1, 2, "").Sig, "a Sig of longer Data": piece(8, 1, 1, 2, "bb").Sig,
	}
	for i := range sig {
		turned := bytes.Clone(sig)
		turned[i] ^= 1 << (i % 8)
		sigs[fmt.Sprintf("a Sig with byte %d turned", i)] = turned
	}
	for signer := range 128 {
		if signer != 1 {
			sigs[fmt.Sprint("the Sig of key ", signer)] = seal(right(), signer).Sig
		}
	}
	out := map[string]api.Msg{}
	for what, sig := range sigs {
		m := right()
		m.Sig = sig
		out[what] = m
	}
	// These are right ones of another replica, piece or state, but for what they say.
	for who := range 4 {
		if m := right(); who != 1 {
			m.From = who
			out[fmt.Sprint("another's piece as that of ", who)] = m
		}
	}
	for what, change := range map[string]func(m *api.Msg){
		"another Index": func(m *api.Msg) { m.Index = 0 }, "another Count": func(m *api.Msg) { m.Count = 3 }, "other Data": func(m *api.Msg) { m.Data = []byte("c") },
		"longer Data": func(m *api.Msg) { m.Data = []byte("b\x00") }, "no Data": func(m *api.Msg) { m.Data = nil },
	} {
		m := right()
		change(&m)
		out[what] = m
	}
	return out
}

// wrong are all that part from the right piece in one thing alone.
func wrong() map[string]api.Msg {
	out := wrongNumbers()
	for _, more := range []map[string]api.Msg{wrongFields(), wrongSigs()} {
		for what, m := range more {
			out[what] = m
		}
	}
	return out
}

func TestWrongPieces(t *testing.T) { // P20.2: they aren't taken, and leave nothing behind
	for what, m := range wrong() {
		f := wanting(4, 8)
		refuses(t, what, f, m, m)
		isntReady(t, what, f)
		wants(t, what, f, 8)
		takes(t, what+", then right ones", f, right(), piece(8, 1, 0, 2, "a"))
		refuses(t, what+", behind the right one", f, m)
		takes(t, what+", then another's", f, tell(8, 3, "a", "b")...)
		isReady(t, what, f, "ab")

		// Neither the Count nor an Index of theirs holds for what comes behind them.
		for _, count := range []int{1, 3, 64} {
			f = wanting(4, 8)
			refuses(t, what, f, m)
			for i := range count {
				takes(t, fmt.Sprintf("%s, then one of %d", what, count), f, piece(8, 1, i, count, "c"))
			}
		}
	}
}

func TestNothingWanted(t *testing.T) { // P20.2
	for _, f := range []*Fetch{New(4), wanting(4, 0), wanting(4, -8)} {
		for _, who := range from(0, 4) {
			refuses(t, "nothing is wanted", f, tell(8, who, "a", "b")...)
			refuses(t, "nothing is wanted", f, tell(0, who, "a", "b")...)
			refuses(t, "nothing is wanted", f, tell(-8, who, "a", "b")...)
		}
		for what, m := range wrong() {
			refuses(t, what, f, m)
		}
		isntReady(t, "nothing is wanted", f)
		f.Want(8)
		takes(t, "behind pieces that weren't wanted", f, right())
	}
}

func TestFroms(t *testing.T) { // P20.2: from 0 to n - 1
	for _, n := range rightNs {
		for _, who := range append(from(-3, 140), odd()...) {
			f, what := wanting(n, 8), fmt.Sprintf("from %d of %d", who, n)
			if who < 0 || who >= n {
				refuses(t, what, f, tell(8, who, "a", "b")...)
				isntReady(t, what, f)
				continue
			}
			takes(t, what, f, tell(8, who, "a", "b")...)
			isntReady(t, what, f)
		}
	}
}

func TestCounts(t *testing.T) { // P20.2: from 1 to 64, and Index from 0 to Count - 1
	for count := -3; count <= 70; count++ {
		for index := -3; index <= 70; index++ {
			f, what := wanting(4, 8), fmt.Sprintf("piece %d of %d", index, count)
			m := piece(8, 2, index, count, "a")
			if count < 1 || count > 64 || index < 0 || index >= count {
				refuses(t, what, f, m)
				continue
			}
			takes(t, what, f, m)
			refuses(t, what+" again", f, m)
		}
	}
	for _, count := range odd() {
		for _, index := range odd() {
			may := count >= 1 && count <= 64 && index >= 0 && index < count
			if got := wanting(4, 8).Add(piece(8, 2, index, count, "a")); got != may {
				t.Errorf("piece %d of %d is taken: %v", index, count, got)
			}
		}
	}
}

func TestDataSizes(t *testing.T) { // P20.2: at most 256 bytes, none included, in each piece
	for many := range 600 {
		f, what := wanting(4, 8), fmt.Sprintf("%d bytes", many)
		list := tell(8, 2, long(many), "a")
		if many > 256 {
			refuses(t, what, f, list[0])
			takes(t, what, f, list[1])
			continue
		}
		takes(t, what, f, list...)
		takes(t, what, f, tell(8, 0, long(many), "a")...)
		isReady(t, what, f, long(many)+"a")
	}
}

func TestSecondCount(t *testing.T) { // P20.2: that of the first piece that was taken holds, for its replica alone
	for first := 1; first <= most; first += 9 {
		for second := 1; second <= most; second++ {
			f, what := wanting(4, 8), fmt.Sprintf("%d pieces, then of %d", first, second)
			takes(t, what, f, piece(8, 2, 0, first, "a"))
			taken := map[int]bool{0: true}
			for _, index := range []int{0, 1, second - 1} {
				may := second == first && index < second && !taken[index]
				adds(t, what, f, may, []api.Msg{piece(8, 2, index, second, "b")})
				taken[index] = taken[index] || may
			}
			takes(t, what+" from another", f, piece(8, 3, 0, second, "a"))
		}
	}
}

func TestIndexTwice(t *testing.T) { // P20.2: with the same Data and with other; the first one holds
	f := wanting(4, 8)
	takes(t, "the first", f, piece(8, 0, 1, 3, "b"))
	refuses(t, "again", f, piece(8, 0, 1, 3, "b"), piece(8, 0, 1, 3, "x"), piece(8, 0, 1, 3, ""))
	takes(t, "an empty one", f, piece(8, 0, 2, 3, ""))
	refuses(t, "again", f, piece(8, 0, 2, 3, ""), piece(8, 0, 2, 3, "x"))
	takes(t, "the last", f, piece(8, 0, 0, 3, "a"))
	refuses(t, "all again", f, tell(8, 0, "a", "b", "")...)
	refuses(t, "all others", f, tell(8, 0, "x", "x", "x")...)
	takes(t, "from another", f, tell(8, 2, "a", "b", "")...)
	isReady(t, "the first ones", f, "ab")
	refuses(t, "when all are there", f, tell(8, 2, "x", "b", "")...)
	isReady(t, "the first ones still", f, "ab")
}

func TestAddWhenReady(t *testing.T) { // P20.2: pieces are taken then, too
	f := wanting(4, 8)
	takes(t, "two", f, append(tell(8, 1, "a"), tell(8, 3, "a")...)...)
	isReady(t, "two", f, "a")
	takes(t, "a third", f, tell(8, 2, "b")...)
	isReady(t, "three", f, "a")
	takes(t, "a fourth", f, tell(8, 0, "a")...)
	isReady(t, "four", f, "a")
	refuses(t, "all again", f, append(tell(8, 1, "a"), tell(8, 0, "b")...)...)
}

func TestMostPieces(t *testing.T) { // P20.2, P20.3: the greatest state of all replicas of the greatest cluster
	f, state := wanting(replicas, greatest), long(most*size)
	for _, who := range from(0, replicas) {
		takes(t, "the greatest state", f, tell(greatest, who, cut(state)...)...)
		if who < 5 {
			isntReady(t, "the greatest state", f)
			continue
		}
		isReady(t, "the greatest state", f, state)
	}
}
