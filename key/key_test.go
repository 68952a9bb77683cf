package key

import (
	"bytes"
	"crypto/sha256"
	"encoding/binary"
	"math"
	"strings"
	"testing"

	"catenary/api"
)

// wrongKeys are beside the keys, some of them keys in their lowest bits.
var wrongKeys = []int{-1, -2, -100, -128, -127, -256, math.MinInt, math.MinInt + 5, 128, 129, 255, 256, 300, 1<<31 - 1, 1 << 31, 1 << 32, 1<<32 + 5, 1 << 35, math.MaxInt}

// domains are of all kinds: empty, no UTF-8, with a length of two bytes.
var domains = []string{"", "vote", "vot", "votes", "sign", "digest", "\x00", "\x04vote", "\xff\xfe", strings.Repeat("d", 127), strings.Repeat("d", 128), strings.Repeat("d", 300)}

// lists are unlike lists of parts; many of them hold the same bytes, cut in several ways.
func lists() [][][]byte {
	return [][][]byte{
		nil,
		{{}},
		{{}, {}},
		{{}, {}, {}},
		{[]byte("abc")},
		{[]byte("a"), []byte("bc")},
		{[]byte("ab"), []byte("c")},
		{[]byte("a"), []byte("b"), []byte("c")},
		{nil, []byte("abc")},
		{[]byte("abc"), nil},
		{[]byte("ab"), nil, []byte("c")},
		{[]byte("a"), []byte("cb")},
		{[]byte("bc"), []byte("a")},
		{[]byte("\x01a\x02bc")},
		{[]byte("a\x02bc")},
		{[]byte("a"), []byte("\x02bc")},
		{{0}},
		{{0}, {0}},
		{{0, 0}},
		{{1}},
		{[]byte("vote")},
		{[]byte("vote"), []byte("abc")},
		{bytes.Repeat([]byte{200}, 127)},
		{bytes.Repeat([]byte{200}, 128)},
		{bytes.Repeat([]byte{200}, 64), bytes.Repeat([]byte{200}, 64)},
		{bytes.Repeat([]byte{200}, 20000)},
	}
}

// packed is a Pack that owes nothing to layer 1.
func packed(parts ...[]byte) []byte {
	var out []byte
	for _, p := range parts {
		out = append(binary.AppendUvarint(out, uint64(len(p))), p...)
	}
	return out
}

// wantDigest is a Digest that owes nothing to the layers below.
func wantDigest(domain string, parts [][]byte) []byte {
	sum := sha256.Sum256(packed(append([][]byte{[]byte("digest"), []byte(domain)}, parts...)...))
	return sum[:]
}

// wantText is a Text that owes nothing to the layers below.
func wantText(key int, domain string, parts [][]byte) []byte {
	return packed(append([][]byte{[]byte("sign"), {byte(key)}, []byte(domain)}, parts...)...)
}

// wantSign is a Sign that owes nothing to the layers below.
func wantSign(key int, domain string, parts [][]byte) []byte {
	sum := sha256.Sum256(wantText(key, domain, parts))
	return sum[:]
}

// roomy answers a list with the same bytes and spare room that is filled with 'x'.
func roomy(b []byte) []byte {
	all := append(append(make([]byte, 0, len(b)+64), b...), bytes.Repeat([]byte{'x'}, 64)...)
	return all[:len(b)]
}

// wasWritten tells whether a list of roomy isn't what it was, spare room included.
func wasWritten(got, want []byte) bool {
	spare := got[len(got):cap(got)]
	return !bytes.Equal(got, want) || len(bytes.Trim(spare, "x")) != 0
}

// fill writes over a list and its spare room.
func fill(b []byte, with byte) {
	b = b[:cap(b)]
	for i := range b {
		b[i] = with
	}
}

// allUnlike asks that no text comes twice.
type allUnlike map[string]string

func (u allUnlike) add(t *testing.T, text []byte, whose string) {
	t.Helper()
	if other, ok := u[string(text)]; ok {
		t.Errorf("%.80q has what %.80q has", whose, other)
	}
	u[string(text)] = whose
}

func TestDigestWrittenOut(t *testing.T) { // P3.1
	for _, c := range []struct {
		got  []byte
		text string
	}{
		{Digest("d", []byte("x")), "\x06digest\x01d\x01x"},
		{Digest("d"), "\x06digest\x01d"},
		{Digest(""), "\x06digest\x00"},
		{Digest("", nil), "\x06digest\x00\x00"},
		{Digest("d", nil, []byte{}), "\x06digest\x01d\x00\x00"},
		{Digest("dom", []byte("ab"), nil, []byte("c")), "\x06digest\x03dom\x02ab\x00\x01c"},
		{Digest("\xff\x00", []byte{0, 255}), "\x06digest\x02\xff\x00\x02\x00\xff"},
	} {
		want := sha256.Sum256([]byte(c.text))
		if !bytes.Equal(c.got, want[:]) {
			t.Errorf("Digest of %q: %x; want %x", c.text, c.got, want)
		}
	}
}

func TestDigest(t *testing.T) { // P3.1
	unlike := allUnlike{}
	for _, domain := range domains {
		for _, parts := range lists() {
			got := Digest(domain, parts...)
			if !bytes.Equal(got, wantDigest(domain, parts)) {
				t.Errorf("Digest(%.20q, %.40q) = %x", domain, parts, got)
			}
			unlike.add(t, got, "Digest of "+domain+string(packed(parts...)))
		}
	}
}

func TestDigestIsNoSignature(t *testing.T) { // P3.1 and P3.2: their first words are unlike
	unlike := allUnlike{}
	unlike.add(t, Digest("\x02", []byte("vote"), []byte("a")), "Digest with the key as domain")
	unlike.add(t, Digest("vote", []byte("a")), "Digest")
	unlike.add(t, Sign(2, "vote", []byte("a")), "Sign")
}

func TestTextWrittenOut(t *testing.T) { // P3.2
	for _, c := range []struct {
		got  []byte
		want string
	}{
		{Text(2, "vote", []byte("a"), []byte("bc")), "\x04sign\x01\x02\x04vote\x01a\x02bc"},
		{Text(0, "vote"), "\x04sign\x01\x00\x04vote"},
		{Text(127, "vote"), "\x04sign\x01\x7f\x04vote"},
		{Text(0, ""), "\x04sign\x01\x00\x00"},
		{Text(0, "", nil), "\x04sign\x01\x00\x00\x00"},
		{Text(9, "d", []byte{}, nil), "\x04sign\x01\x09\x01d\x00\x00"},
		{Text(100, "\xff\x00", []byte{0, 255}), "\x04sign\x01d\x02\xff\x00\x02\x00\xff"},
	} {
		if string(c.got) != c.want {
			t.Errorf("Text %q; want %q", c.got, c.want)
		}
	}
}

func TestTextAndSign(t *testing.T) { // P3.2: all keys, domains and parts; unlike ones have unlike Texts
	texts, signatures := allUnlike{}, allUnlike{}
	for key := range api.MaxKey + 1 {
		for _, domain := range domains {
			for _, parts := range lists()[:8] {
				text, sig := Text(key, domain, parts...), Sign(key, domain, parts...)
				if !bytes.Equal(text, wantText(key, domain, parts)) {
					t.Errorf("Text(%d, %.20q, %.40q) = %.80q", key, domain, parts, text)
				}
				if !bytes.Equal(sig, wantSign(key, domain, parts)) {
					t.Errorf("Sign(%d, %.20q, %.40q) = %x", key, domain, parts, sig)
				}
				texts.add(t, text, "Text of "+string(text))
				signatures.add(t, sig, "Sign of "+string(text))
			}
		}
	}
}

func TestPartsCutInSeveralWays(t *testing.T) { // P3.2
	texts, signatures := allUnlike{}, allUnlike{}
	for _, domain := range domains {
		for _, parts := range lists() {
			text, sig := Text(3, domain, parts...), Sign(3, domain, parts...)
			if !bytes.Equal(text, wantText(3, domain, parts)) || !bytes.Equal(sig, wantSign(3, domain, parts)) {
				t.Errorf("Text or Sign of %.20q, %.40q: %.80q, %x", domain, parts, text, sig)
			}
			texts.add(t, text, "Text of "+string(text))
			signatures.add(t, sig, "Sign of "+string(text))
		}
	}
}

func TestEmptyAndNilPartsAreOne(t *testing.T) {
	if !bytes.Equal(Digest("d", nil), Digest("d", []byte{})) || !bytes.Equal(Text(1, "d", nil), Text(1, "d", []byte{})) || !bytes.Equal(Sign(1, "d", nil), Sign(1, "d", []byte{})) {
		t.Error("a nil part isn't an empty one")
	}
	if !bytes.Equal(Digest("d"), Digest("d", [][]byte{}...)) || !bytes.Equal(Text(1, "d"), Text(1, "d", [][]byte{}...)) || !bytes.Equal(Sign(1, "d"), Sign(1, "d", [][]byte{}...)) {
		t.Error("a nil list of parts isn't an empty one")
	}
	if !Verify(1, Sign(1, "d", nil, []byte{}), "d", []byte{}, nil) || Verify(1, Sign(1, "d"), "d", nil) {
		t.Error("Verify of nil and empty parts")
	}
}

func TestWrongKeys(t *testing.T) { // P3.2
	hashOfNothing := sha256.Sum256(nil)
	for _, key := range wrongKeys {
		for _, parts := range [][][]byte{nil, {{}}, {[]byte("a"), []byte("bc")}} {
			if text := Text(key, "vote", parts...); len(text) != 0 {
				t.Errorf("Text of the key %d: %q", key, text)
			}
			if sig := Sign(key, "vote", parts...); len(sig) != 0 {
				t.Errorf("Sign of the key %d: %x", key, sig)
			}
			number := binary.AppendUvarint(nil, uint64(key))
			written := sha256.Sum256(packed(append([][]byte{[]byte("sign"), number, []byte("vote")}, parts...)...))
			for _, sig := range [][]byte{nil, {}, Sign(key, "vote", parts...), hashOfNothing[:], written[:], wantSign(key, "vote", parts), make([]byte, 32)} {
				if Verify(key, sig, "vote", parts...) {
					t.Errorf("Verify of the key %d takes %x", key, sig)
				}
			}
		}
	}
}

func TestVerify(t *testing.T) { // P3.2
	for _, key := range []int{0, 1, 15, 16, 100, 101, 126, 127} {
		for _, domain := range domains {
			for _, parts := range lists() {
				if !Verify(key, wantSign(key, domain, parts), domain, parts...) {
					t.Errorf("Verify(%d, %.20q, %.40q) refuses the signature", key, domain, parts)
				}
			}
		}
	}
}

func TestVerifyOfAnotherDomain(t *testing.T) { // P3.2: the chapter's example
	parts := [][]byte{[]byte("a"), []byte("bc")}
	for _, made := range domains {
		for _, asked := range domains {
			if Verify(2, Sign(2, made, parts...), asked, parts...) != (made == asked) {
				t.Errorf("a signature in %.20q, asked in %.20q: %v", made, asked, made != asked)
			}
		}
	}
}

func TestVerifyOfAnotherKey(t *testing.T) { // P3.2
	parts := [][]byte{[]byte("a"), []byte("bc")}
	for made := range api.MaxKey + 1 {
		sig := Sign(made, "vote", parts...)
		for asked := range api.MaxKey + 1 {
			if Verify(asked, sig, "vote", parts...) != (made == asked) {
				t.Errorf("a signature of %d, asked of %d: %v", made, asked, made != asked)
			}
		}
		for _, asked := range append([]int{made - 256, made + 256, made - 1<<32, made + 1<<32}, wrongKeys...) {
			if Verify(asked, sig, "vote", parts...) {
				t.Errorf("a signature of %d, asked of %d: true", made, asked)
			}
		}
	}
}

func TestVerifyOfOtherParts(t *testing.T) { // P3.2
	all := lists()
	for i, made := range all {
		sig := Sign(2, "vote", made...)
		for j, asked := range all {
			if Verify(2, sig, "vote", asked...) != (i == j) {
				t.Errorf("a signature of %.40q, asked of %.40q: %v", made, asked, i != j)
			}
		}
	}
	// The domain is no part, nor is a part the domain.
	if Verify(2, Sign(2, "", []byte("vote")), "vote") || Verify(2, Sign(2, "vote"), "", []byte("vote")) || Verify(2, Sign(2, "ab", []byte("c")), "a", []byte("bc")) {
		t.Error("Verify takes a domain for a part")
	}
}

func TestVerifyOfWrongBytes(t *testing.T) { // P3.2
	parts := [][]byte{[]byte("a"), []byte("bc")}
	right := Sign(2, "vote", parts...)
	if len(right) != 32 || !Verify(2, right, "vote", parts...) {
		t.Fatalf("Sign: %x", right)
	}
	refuse := func(what string, sig []byte) {
		t.Helper()
		if Verify(2, sig, "vote", parts...) {
			t.Errorf("Verify takes %s: %x", what, sig)
		}
	}
	refuse("no signature", nil)
	refuse("an empty signature", []byte{})
	refuse("bytes 0", make([]byte, 32))
	for size := range len(right) {
		refuse("the front alone", bytes.Clone(right[:size]))
		refuse("the front, the rest in its spare room", right[:size])
		refuse("the end alone", right[len(right)-size:])
	}
	for _, behind := range [][]byte{{0}, {1}, right} {
		refuse("more behind it", append(bytes.Clone(right), behind...))
		refuse("more ahead of it", append(bytes.Clone(behind), right...))
	}
	for bit := range 8 * len(right) {
		sig := bytes.Clone(right)
		sig[bit/8] ^= 1 << (bit % 8)
		refuse("a turned bit", sig)
	}
	refuse("the text", Text(2, "vote", parts...))
	refuse("the digest", Digest("vote", parts...))
	if !Verify(2, roomy(right), "vote", parts...) {
		t.Error("Verify refuses a signature with spare room")
	}
}

func TestReplica(t *testing.T) { // P3.3
	for i := -300; i <= 300; i++ {
		want := -1
		if 0 <= i && i <= 15 {
			want = i
		}
		if got := Replica(i); got != want {
			t.Errorf("Replica(%d) = %d; want %d", i, got, want)
		}
	}
	for _, i := range []int{math.MinInt, math.MinInt + 1, -1 << 32, 1<<31 - 1, 1 << 32, 1<<32 + 5, math.MaxInt} {
		if got := Replica(i); got != -1 {
			t.Errorf("Replica(%d) = %d; want -1", i, got)
		}
	}
}

func TestClient(t *testing.T) { // P3.3
	for j := -300; j <= 300; j++ {
		want := -1
		if 1 <= j && j <= 27 {
			want = 100 + j
		}
		if got := Client(j); got != want {
			t.Errorf("Client(%d) = %d; want %d", j, got, want)
		}
	}
	for _, j := range []int{math.MinInt, math.MinInt + 1, -1 << 32, 1<<31 - 1, 1 << 32, 1<<32 + 5, math.MaxInt - 100, math.MaxInt - 50, math.MaxInt} {
		if got := Client(j); got != -1 {
			t.Errorf("Client(%d) = %d; want -1", j, got)
		}
	}
}

func TestWithoutAKeyNothingIsSigned(t *testing.T) { // P3.2 and P3.3
	for _, key := range []int{Replica(-1), Replica(16), Client(0), Client(28)} {
		if len(Sign(key, "vote")) != 0 || len(Text(key, "vote")) != 0 || Verify(key, nil, "vote") {
			t.Errorf("something is signed with the key %d", key)
		}
	}
	for _, key := range []int{Replica(0), Replica(15), Client(1), Client(27)} {
		if !Verify(key, Sign(key, "vote"), "vote") {
			t.Errorf("nothing is signed with the key %d", key)
		}
	}
}

func TestArgumentsStay(t *testing.T) {
	first, second, sig := roomy([]byte("ab")), roomy(nil), roomy(wantSign(2, "vote", [][]byte{[]byte("ab"), nil}))
	parts := make([][]byte, 2, 8)
	parts[0], parts[1] = first, second
	for range 2 {
		Digest("vote", parts...)
		Text(2, "vote", parts...)
		Sign(2, "vote", parts...)
		Text(-1, "vote", parts...)
		Sign(128, "vote", parts...)
		Verify(-1, sig, "vote", parts...)
		Verify(3, sig, "vote", parts...)
		if !Verify(2, sig, "vote", parts...) {
			t.Error("Verify refuses the signature")
		}
	}
	if wasWritten(first, []byte("ab")) || wasWritten(second, nil) || wasWritten(sig, wantSign(2, "vote", [][]byte{[]byte("ab"), nil})) {
		t.Error("bytes that were handed in were written over, or their spare room")
	}
	all := parts[:cap(parts)]
	if &all[0][0] != &first[0] || len(all[0]) != 2 || len(all[1]) != 0 {
		t.Errorf("the list of parts is %q now", all)
	}
	for _, spare := range all[2:] {
		if spare != nil {
			t.Errorf("the spare room of the list of parts is %q now", all)
		}
	}
}

func TestArgumentsAreNotKept(t *testing.T) {
	want := [][]byte{[]byte("ab"), []byte("c")}
	parts := [][]byte{roomy(want[0]), roomy(want[1])}
	kept := [][]byte{parts[0], parts[1]}
	digest, text, sig := Digest("vote", parts...), Text(2, "vote", parts...), Sign(2, "vote", parts...)
	again := bytes.Clone(sig)
	if !Verify(2, again, "vote", parts...) {
		t.Error("Verify refuses the signature")
	}
	fill(kept[0], 9)
	fill(kept[1], 9)
	fill(again, 9)
	clear(parts)
	if !bytes.Equal(digest, wantDigest("vote", want)) || !bytes.Equal(text, wantText(2, "vote", want)) || !bytes.Equal(sig, wantSign(2, "vote", want)) {
		t.Error("an answer changed with the argument")
	}
	if !Verify(2, sig, "vote", want...) || Verify(2, again, "vote", want...) {
		t.Error("Verify went by an earlier call's arguments")
	}
}

func TestAnswersAreNewMemory(t *testing.T) {
	parts := [][]byte{[]byte("ab"), []byte("c")}
	for _, c := range []struct {
		name string
		call func() []byte
		want []byte
	}{
		{"Digest", func() []byte { return Digest("vote", parts...) }, wantDigest("vote", parts)},
		{"Text", func() []byte { return Text(2, "vote", parts...) }, wantText(2, "vote", parts)},
		{"Sign", func() []byte { return Sign(2, "vote", parts...) }, wantSign(2, "vote", parts)},
	} {
		one, two := c.call(), c.call()
		fill(one, 9)
		if !bytes.Equal(two, c.want) || !bytes.Equal(c.call(), c.want) {
			t.Errorf("%s changed behind a write into its earlier answer", c.name)
		}
		if len(bytes.Trim(one[:cap(one)], "\x09")) != 0 {
			t.Errorf("a later call wrote into an earlier answer of %s", c.name)
		}
	}
	if string(parts[0]) != "ab" || string(parts[1]) != "c" {
		t.Errorf("a write into an answer changed the parts: %q", parts)
	}
}
