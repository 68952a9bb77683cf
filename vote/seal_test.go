package vote

import (
	"bytes"
	"fmt"
	"slices"
	"testing"

	"catenary/api"
	"catenary/msg"
)

// isOneReport: of such messages the report is signed.
func isOneReport(m api.Msg) bool { return m.Kind == 8 && len(m.Reports) == 1 }

// put is the message with another signature: the one by which it is sealed.
func put(m api.Msg, sig []byte) api.Msg {
	if isOneReport(m) {
		m.Reports = slices.Clone(m.Reports)
		m.Reports[0].Sig = sig
	} else {
		m.Sig = sig
	}
	return m
}

// get is the signature by which a message is sealed.
func get(m api.Msg) []byte {
	if isOneReport(m) {
		return m.Reports[0].Sig
	}
	return m.Sig
}

// wantSeal is what a message signs that can be written.
func wantSeal(t *testing.T, m api.Msg, signer int) []byte {
	t.Helper()
	b, e := msg.Encode(put(m, nil))
	if e != api.OK {
		t.Fatalf("kind %d can't be written: %v", m.Kind, e)
	}
	if isOneReport(m) {
		return signed(signer, "report", b)
	}
	return signed(signer, "message", b)
}

// sameMsg holds two messages against each other; it tells nil and empty as one.
func sameMsg(a, b api.Msg) bool { return fmt.Sprint(a) == fmt.Sprint(b) }

// messages can all be written without the signature by which they are sealed.
func messages() []api.Msg {
	var out []api.Msg
	for _, kind := range kinds {
		out = append(out, full(kind), api.Msg{Kind: kind})
	}
	return append(out, oneReport(), api.Msg{Kind: api.KReport, Reports: make([]api.Report, 1)}, api.Msg{Kind: api.KReport, Reports: make([]api.Report, 2)})
}

// unwritable are messages that can't be written, even without their Sig.
func unwritable() []api.Msg {
	out := []api.Msg{{}, some(), {Kind: 14}, {Kind: -1}, {Kind: 26}, {Kind: 99, Sig: []byte("old")}}
	for _, kind := range kinds {
		low, more := full(kind), full(kind)
		low.Ballot.View, low.Slot, low.From, low.Index = -1, -1, -1, -1
		more.To, more.Count = 1, 1
		out = append(out, low, more)
	}
	negative, list, text, signed, other := oneReport(), oneReport(), oneReport(), oneReport(), oneReport()
	negative.Reports[0].Low = -1
	list.Reports[0].Preps = make([]api.Prep, api.MaxList+1)
	text.Reports[0].Digest = make([]byte, api.MaxData+1)
	// It is the report that is taken without its Sig; the message of this kind has none.
	signed.Sig = []byte("old")
	other.Slot = 1
	many := api.Msg{Kind: api.KReport, Reports: make([]api.Report, api.MaxList+1)}
	return append(out, negative, list, text, signed, other, many, longNew(api.MaxMsg+1), longReport(api.MaxMsg+1))
}

// long is a report by which a message of at most 64 KiB is brought near to MaxMsg bytes.
func long() api.Report {
	votes := make([]api.Vote, 15)
	for i := range votes {
		votes[i].Sig = make([]byte, api.MaxData)
	}
	return api.Report{Digest: make([]byte, api.MaxData/2), Stable: votes}
}

// grow lengthens a report's Digest till the message has so many bytes.
func grow(m api.Msg, size int) api.Msg {
	b, e := msg.Encode(m)
	if e != api.OK {
		panic(e)
	}
	m.Reports[0].Digest = append(m.Reports[0].Digest, make([]byte, size-len(b))...)
	return m
}

// longNew is a KNew of so many bytes, with a Sig beside them.
func longNew(size int) api.Msg {
	m := grow(api.Msg{Kind: api.KNew, Reports: []api.Report{long(), {}}}, size)
	m.Sig = []byte("old")
	return m
}

// longReport is a KReport with one report, of so many bytes, with a Sig beside them.
func longReport(size int) api.Msg {
	m := grow(api.Msg{Kind: api.KReport, Reports: []api.Report{long()}}, size)
	m.Reports[0].Sig = []byte("old")
	return m
}

func TestSealWrittenOut(t *testing.T) { // P6.4
	for _, c := range []struct {
		m    api.Msg
		want string
	}{
		{api.Msg{Kind: api.KReply, From: 1, To: 2, Index: 3, Data: []byte("y"), Sig: []byte("old")}, "\x04sign\x01\x06\x07message\x07\x05\x01\x02\x03\x01y\x00"},
		{api.Msg{Kind: api.KFetch, Slot: 4, From: 2}, "\x04sign\x01\x06\x07message\x03\x0b\x04\x02"},
		{api.Msg{Kind: api.KFetch, Slot: 4, From: 2, Sig: []byte("old")}, "\x04sign\x01\x06\x07message\x03\x0b\x04\x02"},
		{api.Msg{Kind: api.KReport}, "\x04sign\x01\x06\x07message\x02\x08\x00"},
		{api.Msg{Kind: api.KReport, Reports: []api.Report{{Replica: 3, Low: 4, Sig: []byte("old")}}}, "\x04sign\x01\x06\x06report\x0a\x08\x01\x00\x00\x03\x04\x00\x00\x00\x00"},
		{api.Msg{Kind: api.KReport, Reports: []api.Report{{Low: 4, Sig: []byte("s")}, {}}}, "\x04sign\x01\x06\x07message\x13\x08\x02\x00\x00\x00\x04\x00\x00\x00\x01s\x00\x00\x00\x00\x00\x00\x00\x00"},
		{api.Msg{Kind: api.KNew, Reports: []api.Report{{Low: 4, Sig: []byte("s")}}, Sig: []byte("old")}, "\x04sign\x01\x06\x07message\x0f\x09\x00\x00\x00\x00\x01\x00\x00\x00\x04\x00\x00\x00\x01s"},
	} {
		isText(t, fmt.Sprint("SealText ", c.m), SealText(c.m, 6), []byte(c.want))
		sealed := put(c.m, sum([]byte(c.want)))
		if got := Seal(c.m, 6); !sameMsg(got, sealed) {
			t.Errorf("Seal(%v) = %v; want %v", c.m, got, sealed)
		}
		if !Sealed(sealed, 6) || Sealed(c.m, 6) {
			t.Errorf("Sealed of %v", c.m)
		}
	}
}

func TestSeal(t *testing.T) { // P6.4: each kind, whatever it had as Sig
	for i, m := range messages() {
		for signer := range 16 {
			what := fmt.Sprintf("message %d of kind %d, signer %d", i, m.Kind, signer)
			want := wantSeal(t, m, signer)
			sealed := put(m, sum(want))
			for _, old := range [][]byte{nil, {}, []byte("old"), sum(want), make([]byte, api.MaxData+1)} {
				before := put(m, old)
				isText(t, what, SealText(before, signer), want)
				if got := Seal(before, signer); !sameMsg(got, sealed) {
					t.Errorf("%s: %v; want %v", what, got, sealed)
				}
				if got := Sealed(before, signer); got != (len(old) == 32) {
					t.Errorf("%s: sealed with %d bytes: %v", what, len(old), got)
				}
			}
		}
	}
}

func TestSealWithoutKey(t *testing.T) { // P6.4
	for i, m := range messages() {
		for _, signer := range keyless {
			for _, old := range [][]byte{nil, []byte("old"), hashOfNothing, sum(wantSeal(t, m, signer)), sum(wantSeal(t, m, signer&15))} {
				unsealed(t, fmt.Sprintf("message %d by %d", i, signer), put(m, old), signer)
			}
		}
	}
}

// unsealed asks that there is no text, that Seal takes the Sig away, and that the message isn't sealed.
func unsealed(t *testing.T, what string, m api.Msg, signer int) {
	t.Helper()
	isText(t, what, SealText(m, signer), nil)
	if got := Seal(m, signer); !sameMsg(got, put(m, nil)) {
		t.Errorf("%s: Seal made %.200v", what, got)
	}
	if Sealed(m, signer) || Sealed(put(m, nil), signer) {
		t.Errorf("%s: sealed without a text", what)
	}
}

func TestSealOfUnwritable(t *testing.T) { // P6.4
	for i, m := range unwritable() {
		what := fmt.Sprintf("message %d of kind %d", i, m.Kind)
		for _, signer := range []int{0, 3, 15, -1, 16} {
			unsealed(t, what, m, signer)
		}
		for _, domain := range []string{"message", "report"} {
			for _, sig := range [][]byte{hashOfNothing, sum(signed(3, domain)), sum(signed(3, domain, nil))} {
				if Sealed(put(m, sig), 3) {
					t.Errorf("%s: sealed by %x", what, sig)
				}
			}
		}
	}
}

func TestSealOfLong(t *testing.T) { // P6.4: the Sig doesn't count to the bytes
	for _, m := range []api.Msg{longNew(api.MaxMsg), longReport(api.MaxMsg)} {
		want := wantSeal(t, m, 3)
		if got := SealText(m, 3); !bytes.Equal(got, want) {
			t.Errorf("SealText of the greatest message of kind %d has %d bytes", m.Kind, len(got))
		}
		got := Seal(m, 3)
		isText(t, "Sig of the greatest message", get(got), sum(want))
		if !Sealed(got, 3) || Sealed(got, 4) || Sealed(m, 3) {
			t.Errorf("Sealed of the greatest message of kind %d", m.Kind)
		}
	}
}

func TestSealedNeedsAll(t *testing.T) { // P6.4
	for i, m := range messages() {
		sealed := Seal(m, 3)
		for k, sig := range turned(get(sealed)) {
			if Sealed(put(sealed, sig), 3) {
				t.Errorf("message %d is sealed with Sig %d turned", i, k)
			}
		}
		for _, signer := range append(slices.Clone(keyless), 0, 1, 2, 4, 11, 15) {
			if Sealed(sealed, signer) {
				t.Errorf("message %d of 3 is sealed by %d", i, signer)
			}
		}
		for k, other := range messages() {
			if got := Sealed(put(other, get(sealed)), 3); got != sameMsg(put(other, nil), put(m, nil)) {
				t.Errorf("message %d is sealed by what %d is sealed by: %v", k, i, got)
			}
		}
	}
}

func TestSealedSigOfTheOther(t *testing.T) { // P6.4: what seals one report is the report's Sig, and what seals others isn't
	one := Seal(oneReport(), 3)
	moved := put(one, nil)
	moved.Sig = get(one)
	both := one
	both.Sig = get(one)
	two := Seal(full(api.KReport), 3)
	reportTurned := two
	reportTurned.Reports = slices.Clone(two.Reports)
	reportTurned.Reports[0].Sig = []byte("tale")
	within := full(api.KReport)
	within.Reports[0].Sig = two.Sig
	for name, m := range map[string]api.Msg{"one report's Sig in the message": moved, "one report's Sig in both": both, "one of two reports' Sig turned": reportTurned, "Sig of two reports in one of them": within} {
		if Sealed(m, 3) {
			t.Errorf("sealed: %s", name)
		}
	}
}

func TestSealedInTheDomain(t *testing.T) { // P6.4
	for i, m := range messages() {
		b, _ := msg.Encode(put(m, nil))
		for _, domain := range []string{"", "vote", "request", "message", "messages", "report", "reports"} {
			want := domain == "message" && !isOneReport(m) || domain == "report" && isOneReport(m)
			if got := Sealed(put(m, sum(signed(3, domain, b))), 3); got != want {
				t.Errorf("message %d is sealed in the domain %q: %v", i, domain, got)
			}
			if Sealed(put(m, sum(signed(3, domain, b, nil))), 3) {
				t.Errorf("message %d is sealed with two texts in the domain %q", i, domain)
			}
		}
	}
}

func TestSealedFieldByField(t *testing.T) { // P6.4: a sealed message with one field turned isn't
	m := Seal(full(api.KState), 3)
	for name, turn := range map[string]func(*api.Msg){
		"Kind":  func(m *api.Msg) { m.Kind = api.KReply },
		"Slot":  func(m *api.Msg) { m.Slot++ },
		"From":  func(m *api.Msg) { m.From++ },
		"To":    func(m *api.Msg) { m.To++ },
		"Index": func(m *api.Msg) { m.Index++ },
		"Count": func(m *api.Msg) { m.Count++ },
		"Data":  func(m *api.Msg) { m.Data = append(bytes.Clone(m.Data), 0) },
		"none":  func(m *api.Msg) {},
	} {
		other := m
		turn(&other)
		if got := Sealed(other, 3); got != (name == "none") {
			t.Errorf("sealed with another %s: %v", name, got)
		}
	}
}
