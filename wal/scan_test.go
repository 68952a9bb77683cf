package wal

import (
	"encoding/binary"
	"math/rand"
	"slices"
	"strings"
	"testing"
)

// scans asks what Scan answers.
func scans(t *testing.T, text string, want []string) {
	t.Helper()
	records, size := Scan([]byte(text))
	if got := asTexts(records); !slices.Equal(got, want) || size != len(spell(want...)) {
		t.Errorf("Scan of %.80q: %.80q, %d; want %.80q, %d", text, got, size, want, len(spell(want...)))
	}
}

func TestScanOfNothing(t *testing.T) { // P12.1
	for _, none := range [][]byte{nil, {}} {
		if records, size := Scan(none); len(records) != 0 || size != 0 {
			t.Errorf("Scan of no bytes: %q, %d", records, size)
		}
	}
}

func TestScanOfWholeRecords(t *testing.T) { // P12.1: bytes written out
	for text, want := range map[string][]string{
		"\x00":               {""},
		"\x00\x00\x00":       {"", "", ""},
		"\x01x":              {"x"},
		"\x02ab\x00\x01c":    {"ab", "", "c"},
		"\x02\x01x\x01\x00":  {"\x01x", "\x00"},
		"\x01\xff\x02\x80\a": {"\xff", "\x80\a"},
	} {
		scans(t, text, want)
	}
	scans(t, "\x7f"+letters(127), []string{letters(127)})
	scans(t, "\x80\x01"+letters(128), []string{letters(128)})
	scans(t, "\xac\x02"+letters(300)+"\x00", []string{letters(300), ""})
	for _, want := range recordLists() {
		scans(t, spell(want...), want)
	}
}

func TestScanOfManyRecords(t *testing.T) { // P12.1
	scans(t, strings.Repeat("\x00", 10000), make([]string, 10000))
	many := slices.Repeat([]string{"ab", "", letters(200)}, 1000)
	scans(t, spell(many...), many)
}

func TestScanOfGreatRecords(t *testing.T) { // P12.1: as great as a disk, and greater
	for _, size := range []int{65536, 2097151, 2097152, mostRoom, mostRoom + 1, 3 * mostRoom} {
		want := []string{"x", letters(size), "y"}
		scans(t, spell(want...), want)
		scans(t, spell(want[:2]...)[:size+1], want[:1])
	}
}

func TestScanOfATornRecord(t *testing.T) { // P12.1: torn in its length and in its text, at every byte
	for _, ahead := range recordLists() {
		start := spell(ahead...)
		for _, size := range []int{0, 1, 2, 127, 128, 300, 16384} {
			torn := spell(letters(size))
			step := max(1, size/100)
			for end := 0; end < len(torn); end += step {
				scans(t, start+torn[:end], ahead)
			}
			scans(t, start+torn[:len(torn)-1], ahead)
			scans(t, start+torn, append(slices.Clone(ahead), letters(size)))
		}
	}
}

func TestScanOfNoLength(t *testing.T) { // P12.1: and what stands behind such bytes isn't found, however whole it is
	for _, tail := range noLengths() {
		for _, ahead := range recordLists() {
			scans(t, spell(ahead...)+tail, ahead)
			scans(t, spell(ahead...)+tail+spell("x", "", "yz"), ahead)
		}
	}
}

func TestScanOfOtherBytesBehind(t *testing.T) { // P12.1
	for _, tail := range tails() {
		for _, ahead := range recordLists() {
			scans(t, spell(ahead...)+tail, ahead)
		}
	}
}

func TestScanTakesWhatIsThere(t *testing.T) { // P12.1: bytes behind a torn record are taken for its text
	scans(t, "\x01x"+"\x05a"+"\x01y", []string{"x"})
	scans(t, "\x01x"+"\x03a"+"\x01y", []string{"x", "a\x01y"})
	scans(t, "\x01x"+"\x02a"+"\x01y", []string{"x", "a\x01"})
	scans(t, "\x01x"+"\x02a"+"\x01y\x00", []string{"x", "a\x01"})
}

// toldScan: Scan as the chapter tells it, over the library's numbers.
func toldScan(b []byte) ([]string, int) {
	var records []string
	at := 0
	for {
		size, groups := binary.Uvarint(b[at:])
		one := len(binary.AppendUvarint(nil, size))
		if groups <= 0 || groups != one || size > 2147483647 || size > uint64(len(b)-at-groups) {
			return records, at
		}
		at += groups
		records = append(records, string(b[at:at+int(size)]))
		at += int(size)
	}
}

// scansAsTold holds Scan against the chapter retold.
func scansAsTold(t *testing.T, b []byte) {
	t.Helper()
	records, size := Scan(b)
	want, wantSize := toldScan(b)
	if !slices.Equal(asTexts(records), want) || size != wantSize {
		t.Fatalf("Scan of %q: %q, %d; want %q, %d", b, records, size, want, wantSize)
	}
	if spell(want...) != string(b[:size]) {
		t.Fatalf("Scan of %q: %q take %q", b, records, b[:size])
	}
}

func TestScanOfShortBytes(t *testing.T) { // P12.1: of up to two bytes all, of more those of few letters
	for a := range 256 {
		scansAsTold(t, []byte{byte(a)})
		for b := range 256 {
			scansAsTold(t, []byte{byte(a), byte(b)})
		}
	}
	few := []byte{0, 1, 2, 3, 7, 8, 127, 128, 129, 255}
	for number := range 100000 {
		var text []byte
		for ; number > 0; number /= len(few) {
			text = append(text, few[number%len(few)])
		}
		scansAsTold(t, text)
		scansAsTold(t, append(text, few...))
	}
}

func TestScanOfDrawnBytes(t *testing.T) { // P12.1
	draw := rand.New(rand.NewSource(12))
	for range 20000 {
		var text []byte
		for range draw.Intn(8) {
			text = append(text, spell(letters(draw.Intn(9)))...)
		}
		if len(text) > 0 && draw.Intn(2) == 0 {
			text[draw.Intn(len(text))] = byte(draw.Intn(256))
		}
		scansAsTold(t, text[:len(text)-draw.Intn(min(3, len(text)+1))])
	}
}

func FuzzScan(f *testing.F) { // P12.1
	for _, tail := range tails() {
		f.Add([]byte(spell("ab", "", "c") + tail))
	}
	f.Fuzz(scansAsTold)
}
