package vote

import (
	"bytes"
	"crypto/sha256"
	"encoding/binary"
	"math"
	"reflect"
	"testing"

	"catenary/api"
	"catenary/msg"
)

// kinds are the numbers of messages and records.
var kinds = []int{1, 2, 3, 4, 5, 6, 7, 8, 9, 10, 11, 12, 13, 20, 21, 22, 23, 24, 25}

// numbers are of all sizes, those below 0 too.
var numbers = []int{math.MinInt, math.MinInt + 1, -1 << 32, -256, -2, -1, 0, 1, 2, 3, 127, 128, 255, 256, api.MaxSlot, api.MaxInt, api.MaxInt + 1, 1<<32 - 1, 1 << 32, 1<<56 + 1, math.MaxInt - 1, math.MaxInt}

// keyless are signers without a key of a replica: some have one in their lowest bits, some have a client's.
var keyless = []int{math.MinInt, math.MinInt + 3, -256, -100, -16, -2, -1, 16, 17, 99, 100, 101, 127, 128, 255, 256, 1 << 31, 1 << 32, 1<<32 + 3, math.MaxInt}

// bodies are no two the same; the first is none.
var bodies = [][]byte{nil, {0}, {0, 0}, []byte("r"), []byte("rs"), []byte("\x01r"), bytes.Repeat([]byte{7}, 127), bytes.Repeat([]byte{7}, 128), bytes.Repeat([]byte{7}, api.MaxData+1)}

// hashOfNothing would be the signature of whom no key gives a text.
var hashOfNothing = sum(nil)

func sum(text []byte) []byte {
	hash := sha256.Sum256(text)
	return hash[:]
}

// eights are the 8 bytes of each number.
func eights(numbers ...int) []byte {
	var out []byte
	for _, n := range numbers {
		out = binary.LittleEndian.AppendUint64(out, uint64(n))
	}
	return out
}

// signed is what a key signs, made without the layers below.
func signed(key int, domain string, parts ...[]byte) []byte {
	var out []byte
	for _, p := range append([][]byte{[]byte("sign"), {byte(key)}, []byte(domain)}, parts...) {
		out = append(binary.AppendUvarint(out, uint64(len(p))), p...)
	}
	return out
}

// turned are unlike texts that are near to one: a bit of each byte turned, cut, lengthened, none, another's.
func turned(sig []byte) [][]byte {
	out := [][]byte{nil, {}, make([]byte, len(sig)), sum(sig), hashOfNothing, sig[:len(sig)-1], sig[1:], append(bytes.Clone(sig), 0), append([]byte{0}, sig...), append(bytes.Clone(sig), sig...)}
	for i := range sig {
		other := bytes.Clone(sig)
		other[i] ^= 1 << (i % 8)
		out = append(out, other)
	}
	return out
}

// some has something in each field.
func some() api.Msg {
	r := func(n int) api.Req {
		return api.Req{Client: n, Stamp: n + 1, Op: []byte("op"), Sig: []byte("asked")}
	}
	votes := func(n int) []api.Vote {
		return []api.Vote{{Signer: n, Sig: []byte("one")}, {Signer: n + 1, Sig: []byte("two")}}
	}
	b := api.Ballot{View: 31, Turn: 32}
	report := api.Report{Ballot: b, Replica: 33, Low: 34, Digest: []byte("digest"), Stable: votes(35), Preps: []api.Prep{{Slot: 36, Ballot: b, Req: r(37), Cert: votes(38)}}, Sig: []byte("told")}
	return api.Msg{
		Ballot: b, Slot: 1, From: 2, To: 3, Index: 4, Count: 5, Req: r(6), Other: r(7), Data: []byte("data"), Sig: []byte("sealed"),
		Cert: votes(8), Votes: votes(9), Order: []int{10, 11}, Picks: []api.Req{r(12), r(13)}, Reports: []api.Report{report, report},
	}
}

// full is a message of a kind with something in each field that the kind has.
func full(kind int) api.Msg {
	m := api.Msg{Kind: kind}
	fields, all := reflect.ValueOf(&m).Elem(), reflect.ValueOf(some())
	for i := range fields.NumField() {
		if fields.Type().Field(i).Name == "Kind" {
			continue
		}
		fields.Field(i).Set(all.Field(i))
		if _, e := msg.Encode(m); e != api.OK {
			fields.Field(i).SetZero()
		}
	}
	return m
}

// oneReport is a KReport with one report.
func oneReport() api.Msg {
	m := full(api.KReport)
	m.Reports = m.Reports[:1]
	return m
}

// isText asks that a text is the one that is wanted; none, if there is none.
func isText(t *testing.T, what string, got, want []byte) {
	t.Helper()
	if !bytes.Equal(got, want) {
		t.Errorf("%s: %.120q; want %.120q", what, got, want)
	}
}
