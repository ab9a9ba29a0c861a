package tests

import (
	"encoding/binary"
	"fmt"
	"math/rand"
	"reflect"
	"regexp"
	"slices"
	"strconv"
	"strings"
	"testing"
	"unsafe"

	"loop.example/g00217/impl"
)

// lineOf is a Record with whatever parts a test asks for.
func lineOf(size string, digest string, text string) string {
	return size + " " + digest + "\n" + text + "\n"
}

func digestText(text string) string {
	return decimal(bigDigest(text))
}

// recordByRule writes what chapter 10 tells of a Record.
func recordByRule(text string) string {
	if len(text) > 3000 {
		return ""
	}
	return lineOf(fmt.Sprint(len(text)), digestText(text), text)
}

// recordForm is two numbers with a blank between and a byte 10 behind, with what follows.
var recordForm = regexp.MustCompile(`(?s)^(0|[1-9][0-9]{0,9}) (0|[1-9][0-9]{0,9})\n(.*)$`)

func recordsByRule(disk string) ([]string, int64) {
	list, taken := []string{}, int64(0)
	for {
		form := recordForm.FindStringSubmatch(disk[taken:])
		if form == nil {
			return list, taken
		}
		size, _ := strconv.Atoi(form[1])
		if size > 3000 || size+1 > len(form[3]) {
			return list, taken
		}
		text := form[3][:size]
		if form[3][size] != '\n' || digestText(text) != form[2] {
			return list, taken
		}
		list = append(list, text)
		taken += int64(len(form[1]) + 1 + len(form[2]) + 1 + size + 1)
	}
}

// textsWritten is Texts by the rule, with no limit on how many or how long.
func textsWritten(texts ...string) string {
	data := binary.AppendUvarint(nil, uint64(len(texts)))
	for _, s := range texts {
		data = append(binary.AppendUvarint(data, uint64(len(s))), s...)
	}
	return string(data)
}

// textsOfBatch has the three texts of each Write, be it right or not.
func textsOfBatch(list []impl.Write) []string {
	texts := []string{}
	for _, w := range list {
		texts = append(texts, w.Key, w.Value, map[bool]string{true: "1", false: "0"}[w.Gone])
	}
	return texts
}

func batchTextByRule(list []impl.Write) string {
	if len(list) == 0 || !batchByRule(list) {
		return ""
	}
	return textsWritten(textsOfBatch(list)...)
}

// readBatchByRule reads what it can, and asks the rule whether just that makes the text.
func readBatchByRule(s string) ([]impl.Write, bool) {
	texts, rest, ok := []string{}, []byte(s), true
	number := func() uint64 {
		n, size := binary.Uvarint(rest)
		if size <= 0 {
			ok = false
			return 0
		}
		rest = rest[size:]
		return n
	}
	number()
	for ok && len(rest) > 0 {
		size := number()
		if size > uint64(len(rest)) {
			return nil, false
		}
		texts = append(texts, string(rest[:size]))
		rest = rest[size:]
	}
	list := []impl.Write{}
	for i := 0; i+2 < len(texts); i += 3 {
		list = append(list, impl.Write{Key: texts[i], Value: texts[i+1], Gone: texts[i+2] == "1"})
	}
	if !ok || s == "" || batchTextByRule(list) != s {
		return nil, false
	}
	return list, true
}

// recordTexts are texts of which Record makes one; two of them have the least and the greatest digest that there is.
func recordTexts() map[string]string {
	return map[string]string{
		"empty":                 "",
		"one byte":              "a",
		"a digit":               "7",
		"ordinary":              "stones that nobody moves",
		"a blank":               " ",
		"blanks":                "  a  b ",
		"a byte 10":             "\n",
		"bytes 10":              "\n\na\n\n",
		"a byte 0":              "\x00",
		"bytes above 127":       "\x80\xff\xfe",
		"more bytes than runes": strings.Repeat("é", 1500),
		"any bytes":             "\x00\xff\n \t\r7+-",
		"digest 0":              "aatvvsdf",
		"digest 1":              "aatvvsdg",
		"digest 9":              "aatvvsdo",
		"the greatest digest":   "aatvvsde",
		"9 bytes":               sized(9),
		"10 bytes":              sized(10),
		"99 bytes":              sized(99),
		"1000 bytes":            sized(1000),
		"MaxText - 1":           sized(2999),
		"MaxText":               sized(3000),
		"MaxText bytes 10":      strings.Repeat("\n", 3000),
		"itself a Record":       recordByRule("ab"),
		"two Records":           recordByRule("ab") + recordByRule(""),
		"a part of a Record":    "2 1524104547\na",
		"a Record's first line": "2 1524104547",
		"a batch":               "\x06\x01k\x01v\x010\x01g\x00\x011",
	}
}

// longTexts are those of which it makes none.
func longTexts() map[string]string {
	return map[string]string{
		"MaxText + 1":                   sized(3001),
		"MaxText + 1 in fewer runes":    "x" + strings.Repeat("é", 1500),
		"4000 bytes":                    sized(4000),
		"20000 bytes 10":                strings.Repeat("\n", 20000),
		"2 to the 16, and one":          sized(1<<16 + 1),
		"a Record of MaxText":           recordByRule(sized(3000)),
		"Records of more than they may": strings.Repeat(recordByRule("ab"), 300),
	}
}

func TestRecordOfForms(t *testing.T) {
	for text, want := range map[string]string{
		"":             "0 1\n\n",
		"\x00":         "1 1000004\n\x00\n",
		"a":            "1 1000101\na\n",
		" ":            "1 1000036\n \n",
		"\n":           "1 1000014\n\n\n",
		"\xff":         "1 1000259\n\xff\n",
		"ab":           "2 1524104547\nab\n",
		"aatvvsdf":     "8 0\naatvvsdf\n",
		"aatvvsdg":     "8 1\naatvvsdg\n",
		"aatvvsde":     "8 2147483646\naatvvsde\n",
		sized(3000):    "3000 " + digestText(sized(3000)) + "\n" + sized(3000) + "\n",
		sized(3001):    "",
		"0 1\n\n":      "5 " + digestText("0 1\n\n") + "\n0 1\n\n\n",
		"a b\nc\xffd ": "8 " + digestText("a b\nc\xffd ") + "\na b\nc\xffd \n",
	} {
		if got := impl.Record(text); got != want {
			t.Errorf("%.40q: %.80q", text, got)
		}
	}
}

func TestRecordByTheRule(t *testing.T) {
	for name, text := range recordTexts() {
		if got := impl.Record(text); got != recordByRule(text) || got == "" {
			t.Errorf("%s: %.80q", name, got)
		}
	}
	for name, text := range longTexts() {
		if got := impl.Record(text); got != "" {
			t.Errorf("%s: %.80q", name, got)
		}
	}
	for _, text := range anyTexts(31, 300) {
		if got := impl.Record(text); got != recordByRule(text) {
			t.Errorf("%.80q: %.80q", text, got)
		}
	}
	for n := range 60 {
		if got := impl.Record(sized(2970 + n)); (got == "") != (2970+n > 3000) {
			t.Errorf("%d bytes: %.80q", 2970+n, got)
		}
	}
}

// wantRecords asks that just these are there, and that they take so many bytes.
func wantRecords(t *testing.T, name string, disk string, want []string, taken int) {
	t.Helper()
	if list, n := impl.Records(disk); n != int64(taken) || !slices.Equal(list, want) {
		t.Errorf("%s: Records of %.80q: %.80q, %d, not %.80q, %d", name, disk, list, n, want, taken)
	}
}

// refuseRecord asks that the text is none, whatever is behind it, and that it ends those that are ahead of it.
func refuseRecord(t *testing.T, name string, part string) {
	t.Helper()
	first, second := recordByRule("first"), recordByRule("")
	wantRecords(t, name, part, nil, 0)
	wantRecords(t, name+", first", part+first, nil, 0)
	wantRecords(t, name+", last", first+second+part, []string{"first", ""}, len(first+second))
	wantRecords(t, name+", between", second+part+first, []string{""}, len(second))
}

func TestRecordsOfForms(t *testing.T) {
	ab, none := recordByRule("ab"), recordByRule("")
	most, inner := recordByRule(sized(3000)), recordByRule(recordByRule("ab"))
	for name, c := range map[string]struct {
		disk string
		want []string
		size int
	}{
		"an empty disk":                  {"", nil, 0},
		"one":                            {"2 1524104547\nab\n", []string{"ab"}, 16},
		"one of an empty text":           {"0 1\n\n", []string{""}, 5},
		"two alike":                      {ab + ab, []string{"ab", "ab"}, 32},
		"two, and a part":                {ab + ab + ab[:5], []string{"ab", "ab"}, 32},
		"three unlike":                   {none + ab + none, []string{"", "ab", ""}, 26},
		"one of MaxText":                 {most, []string{sized(3000)}, len(most)},
		"one of MaxText among others":    {ab + most + none, []string{"ab", sized(3000), ""}, 21 + len(most)},
		"a text that is a Record":        {inner, []string{ab}, len(inner)},
		"and another behind it":          {inner + ab, []string{ab, "ab"}, len(inner) + 16},
		"and a part of one behind it":    {inner + inner[:len(inner)-1], []string{ab}, len(inner)},
		"the text's own, its head away":  {inner[strings.IndexByte(inner, '\n')+1:], []string{"ab"}, 16},
		"a byte 10 behind":               {ab + "\n", []string{"ab"}, 16},
		"a blank behind":                 {ab + " ", []string{"ab"}, 16},
		"a byte 0 behind":                {ab + "\x00", []string{"ab"}, 16},
		"a digit behind":                 {ab + "0", []string{"ab"}, 16},
		"a byte 10 ahead":                {"\n" + ab, nil, 0},
		"a byte 10 between":              {ab + "\n" + ab, []string{"ab"}, 16},
		"a blank ahead":                  {" " + ab, nil, 0},
		"another text ahead":             {"x" + ab, nil, 0},
		"no Record at all":               {"no Record at all\n", nil, 0},
		"text alone":                     {"ab\n", nil, 0},
		"digests 0 and greatest":         {"8 0\naatvvsdf\n8 2147483646\naatvvsde\n", []string{"aatvvsdf", "aatvvsde"}, 13 + 22},
		"a text with its own first line": {recordByRule("2 1524104547\n"), []string{"2 1524104547\n"}, len(recordByRule("2 1524104547\n"))},
	} {
		wantRecords(t, name, c.disk, c.want, c.size)
		if list, n := recordsByRule(c.disk); int(n) != c.size || !slices.Equal(list, c.want) {
			t.Errorf("%s: the rule reads %.80q", name, list)
		}
	}
}

func TestRecordsOfEachText(t *testing.T) {
	disk, list := "", []string{}
	for name, text := range recordTexts() {
		wantRecords(t, name, recordByRule(text), []string{text}, len(recordByRule(text)))
		wantRecords(t, name+", of Record", impl.Record(text), []string{text}, len(impl.Record(text)))
		disk, list = disk+impl.Record(text), append(list, text)
		wantRecords(t, name+", behind others", disk, list, len(disk))
	}
	// What is too long was never written, though its parts were.
	for name, text := range longTexts() {
		refuseRecord(t, name, lineOf(fmt.Sprint(len(text)), digestText(text), text))
	}
}

func TestRecordsOfManyRecords(t *testing.T) {
	disk, list := strings.Builder{}, []string{}
	for i := range 5000 {
		list = append(list, fmt.Sprint("record ", i))
		disk.WriteString(recordByRule(list[i]))
	}
	wantRecords(t, "5000", disk.String(), list, disk.Len())
	wantRecords(t, "5000, cut", disk.String()[:disk.Len()-1], list[:4999], disk.Len()-len(recordByRule(list[4999])))
	wantRecords(t, "5000 empty ones", strings.Repeat("0 1\n\n", 5000), make([]string, 5000), 25000)
}

// journalDisks are texts whose Records are one behind the other.
func journalDisks() map[string][]string {
	return map[string][]string{
		"one":              {"stone"},
		"one, empty":       {""},
		"four empty ones":  {"", "", "", ""},
		"several":          {"a", "", "two words", "\n", "x\ny\n", "\x00\xff", "last"},
		"alike ones":       {"ab", "ab", "ab"},
		"Records in texts": {recordByRule(""), recordByRule("ab") + recordByRule("c"), "end"},
		"digits and lines": {"0 1\n", "0 1\n\n", "\n0 1\n\n", "1 1000101", "10"},
		"long ones":        {sized(3000), strings.Repeat("\n", 3000), "short", sized(1500)},
		"the least digest": {"aatvvsdf", "aatvvsde", "aatvvsdg"},
	}
}

// checkCutDisk asks promise 10 of one cut: the Records that end ahead of it are there, and nothing else is.
func checkCutDisk(t *testing.T, name string, disk string, texts []string, ends []int, at int) {
	t.Helper()
	whole, taken := 0, 0
	for whole < len(ends) && ends[whole] <= at {
		taken = ends[whole]
		whole++
	}
	if list, n := impl.Records(disk[:at]); n != int64(taken) || !slices.Equal(list, texts[:whole]) {
		t.Fatalf("%s, cut at %d: %.80q, %d, not the first %d, %d", name, at, list, n, whole, taken)
	}
}

// diskOf has the disk with these texts, and where each of its Records ends.
func diskOf(texts []string) (string, []int) {
	disk, ends := "", []int{}
	for _, text := range texts {
		disk += impl.Record(text)
		ends = append(ends, len(disk))
	}
	return disk, ends
}

func TestADiskThatIsCutAnywhereHasItsFirstRecords(t *testing.T) {
	for name, texts := range journalDisks() {
		disk, ends := diskOf(texts)
		for at := range len(disk) + 1 {
			checkCutDisk(t, name, disk, texts, ends, at)
		}
	}
}

func TestAnyDiskThatIsCutHasItsFirstRecords(t *testing.T) {
	source := rand.New(rand.NewSource(32))
	for range 300 {
		texts := []string{}
		for range source.Intn(8) {
			texts = append(texts, anyBytes(source, source.Intn(1+source.Intn(60))))
		}
		disk, ends := diskOf(texts)
		for at := range len(disk) + 1 {
			checkCutDisk(t, "any disk", disk, texts, ends, at)
		}
	}
}

// Whatever comes behind the Records of a disk, these stay the first ones.
func TestRecordsWithAByteMore(t *testing.T) {
	for name, texts := range journalDisks() {
		disk, _ := diskOf(texts)
		for b := range 256 {
			wantRecords(t, name, disk+string([]byte{byte(b)}), texts, len(disk))
		}
		wantRecords(t, name+", and what is no Record", disk+"2 1\nab\n"+disk, texts, len(disk))
		wantRecords(t, name+", twice", disk+disk, slices.Concat(texts, texts), 2*len(disk))
	}
}

func TestRecordsWithAnyByteChanged(t *testing.T) {
	for _, text := range []string{"", "ab", "\n", "\n\n\n", " a b ", "aatvvsdf", "aatvvsde", recordByRule(""), "1 1000101\na", sized(12)} {
		record := recordByRule(text)
		behind := recordByRule("behind")
		for at := range len(record) {
			for b := range 256 {
				other := record[:at] + string([]byte{byte(b)}) + record[at+1:]
				if other == record {
					continue
				}
				wantRecords(t, "changed", other, nil, 0)
				wantRecords(t, "changed, with one ahead and one behind", behind+other+behind, []string{"behind"}, len(behind))
			}
		}
	}
}

func TestRecordsWithAByteMoreOrLess(t *testing.T) {
	for _, text := range []string{"", "ab", "\n", "\n\n\n", " a b ", "aatvvsdf", "aatvvsde", recordByRule(""), sized(12)} {
		record := recordByRule(text)
		for at := range len(record) {
			for b := range 256 {
				checkRecords(t, record[:at]+string([]byte{byte(b)})+record[at:]+record)
			}
			checkRecords(t, record[:at]+record[at+1:])
			checkRecords(t, record[:at]+record[at+1:]+record)
			checkRecords(t, record[at:]+record)
		}
	}
}

// Each part of the Record "2 1524104547\nab\n", changed in each way that may tempt.
func TestRecordsOfWrongOnes(t *testing.T) {
	ab := digestText("ab")
	for name, part := range map[string]string{
		"no length":                          " " + ab + "\nab\n",
		"no digest":                          "2 \nab\n",
		"no length and no digest":            " \nab\n",
		"no blank":                           "2" + ab + "\nab\n",
		"no first byte 10":                   "2 " + ab + "ab\n",
		"no text":                            "2 " + ab + "\n\n",
		"no last byte 10":                    "2 " + ab + "\nab",
		"another length, less":               lineOf("1", ab, "ab"),
		"another length, more":               lineOf("3", ab, "ab"),
		"a length of 0":                      lineOf("0", ab, "ab"),
		"a length of 0, the digest of that":  lineOf("0", "1", "ab"),
		"a length of MaxText":                lineOf("3000", ab, "ab"),
		"a length of MaxText + 1":            lineOf("3001", ab, "ab"),
		"a length of 10 digits":              lineOf("9999999999", ab, "ab"),
		"a length of 11 digits":              lineOf("10000000000", ab, "ab"),
		"a length of 21 digits":              lineOf("222222222222222222222", ab, "ab"),
		"a length of 400 digits":             lineOf(strings.Repeat("2", 400), ab, "ab"),
		"the greatest number":                lineOf("9223372036854775807", ab, "ab"),
		"past the greatest number":           lineOf("9223372036854775808", ab, "ab"),
		"2, once round":                      lineOf("18446744073709551618", ab, "ab"),
		"2, once round in 32 bits":           lineOf("4294967298", ab, "ab"),
		"2, once round in 16 bits":           lineOf("65538", ab, "ab"),
		"2, once round in 8 bits":            lineOf("258", ab, "ab"),
		"a length with a nought ahead":       lineOf("02", ab, "ab"),
		"a length with 20 noughts ahead":     lineOf(strings.Repeat("0", 20)+"2", ab, "ab"),
		"a length with a + ahead":            lineOf("+2", ab, "ab"),
		"a length with a - ahead":            lineOf("-2", ab, "ab"),
		"a length with a blank ahead":        lineOf(" 2", ab, "ab"),
		"a length in hexadecimal":            lineOf("0x2", ab, "ab"),
		"a length with _":                    lineOf("0_2", ab, "ab"),
		"a length with a point":              lineOf("2.0", ab, "ab"),
		"a length with a letter":             lineOf("2a", ab, "ab"),
		"a length of another script":         lineOf("\u0662", ab, "ab"),
		"a length that is the byte below 0":  lineOf("/2", ab, "ab"),
		"a length that is the byte above 9":  lineOf(":", ab, "ab"),
		"a digest with a nought ahead":       lineOf("2", "0"+ab, "ab"),
		"a digest with a + ahead":            lineOf("2", "+"+ab, "ab"),
		"a digest with a - ahead":            lineOf("2", "-"+ab, "ab"),
		"a digest with a blank ahead":        lineOf("2", " "+ab, "ab"),
		"a digest with a blank behind":       lineOf("2", ab+" ", "ab"),
		"a digest with a digit behind":       lineOf("2", ab+"0", "ab"),
		"a digest with a letter behind":      lineOf("2", ab+"a", "ab"),
		"a digest without its last digit":    lineOf("2", ab[:len(ab)-1], "ab"),
		"the digest and 1":                   lineOf("2", decimal(bigDigest("ab")+1), "ab"),
		"the digest less 1":                  lineOf("2", decimal(bigDigest("ab")-1), "ab"),
		"the digest and its modulus":         lineOf("2", decimal(bigDigest("ab")+2147483647), "ab"),
		"the digest less its modulus":        lineOf("2", decimal(bigDigest("ab")-2147483647), "ab"),
		"the digest of nothing":              lineOf("2", "1", "ab"),
		"the digest of text and byte 10":     lineOf("2", digestText("ab\n"), "ab"),
		"the digest of the first byte":       lineOf("2", digestText("a"), "ab"),
		"a digest of 400 digits":             lineOf("2", strings.Repeat("1", 400), "ab"),
		"length and digest changed about":    lineOf(ab, "2", "ab"),
		"another text":                       lineOf("2", ab, "ba"),
		"the other case":                     lineOf("2", ab, "AB"),
		"a longer text":                      lineOf("2", ab, "abc"),
		"a shorter text":                     lineOf("2", ab, "a"),
		"two blanks":                         "2  " + ab + "\nab\n",
		"a tab for the blank":                "2\t" + ab + "\nab\n",
		"a byte 10 for the blank":            "2\n" + ab + "\nab\n",
		"a blank for the first byte 10":      "2 " + ab + " ab\n",
		"a blank for the last byte 10":       "2 " + ab + "\nab ",
		"a byte 0 for the last byte 10":      "2 " + ab + "\nab\x00",
		"a byte 13 ahead of the first 10":    "2 " + ab + "\r\nab\n",
		"a byte 13 ahead of the last 10":     "2 " + ab + "\nab\r\n",
		"a byte 13 for the first 10":         "2 " + ab + "\rab\n",
		"two bytes 10 first":                 "2 " + ab + "\n\nab\n",
		"0 of digest 0 with -0":              lineOf("8", "-0", "aatvvsdf"),
		"0 of digest 0 with 00":              lineOf("8", "00", "aatvvsdf"),
		"0 of digest 0 with no digit":        lineOf("8", "", "aatvvsdf"),
		"0 of digest 0 with its modulus":     lineOf("8", "2147483647", "aatvvsdf"),
		"an empty text with 00":              lineOf("00", "1", ""),
		"an empty text with -0":              lineOf("-0", "1", ""),
		"an empty text with +0":              lineOf("+0", "1", ""),
		"an empty text with no length":       lineOf("", "1", ""),
		"an empty text of digest 0":          lineOf("0", "0", ""),
		"an empty text of digest 01":         lineOf("0", "01", ""),
		"an empty text without its last one": "0 1\n",
	} {
		if part == lineOf("2", ab, "ab") {
			t.Fatalf("%s: it is a Record", name)
		}
		if list, n := recordsByRule(part); len(list) > 0 || n != 0 {
			t.Errorf("%s: the rule reads %q", name, list)
		}
		wantRecords(t, name, part, nil, 0)
		wantRecords(t, name+", behind one", recordByRule("first")+part, []string{"first"}, len(recordByRule("first")))
		checkRecords(t, part+recordByRule("behind"))
		checkRecords(t, part+sized(3000)+"\n"+recordByRule("behind"))
	}
}

// A length that is more than is there: by one, and by the byte 10 alone.
func TestRecordsOfALengthBeyondTheDisk(t *testing.T) {
	for _, size := range []int{0, 1, 2, 10, 2999, 3000} {
		record := recordByRule(sized(size))
		refuseRecordAlone(t, "without its last byte", record[:len(record)-1])
		if size > 0 {
			refuseRecordAlone(t, "without its last two", record[:len(record)-2])
		}
		refuseRecordAlone(t, "one more than there is", lineOf(fmt.Sprint(size+1), digestText(sized(size)), sized(size)))
		refuseRecordAlone(t, "one more than there is, the digest of both", lineOf(fmt.Sprint(size+1), digestText(sized(size)+"\n"), sized(size)))
		if size < 3000 {
			refuseRecordAlone(t, "3000, of which there are less", lineOf("3000", digestText(sized(3000)), sized(size)))
		}
	}
	// What is told there is behind the byte 10 is there: it is a part of the text then.
	wantRecords(t, "with one byte 10 more", lineOf("3", digestText("ab\n"), "ab\n"), []string{"ab\n"}, len(recordByRule("ab\n")))
}

func refuseRecordAlone(t *testing.T, name string, part string) {
	t.Helper()
	first := recordByRule("first")
	wantRecords(t, name, part, nil, 0)
	wantRecords(t, name+", behind one", first+part, []string{"first"}, len(first))
}

// Two texts with one digest: the Record of the one is that of the other with the text changed.
func TestRecordsOfTextsThatClash(t *testing.T) {
	for _, pair := range clashes {
		a, b := impl.Record(pair[0]), impl.Record(pair[1])
		if len(pair[0]) == len(pair[1]) {
			wantRecords(t, "a clash", strings.Replace(a, pair[0], pair[1], 1)+b, []string{pair[1], pair[1]}, 2*len(b))
			continue
		}
		// Of other lengths it is none: the length tells them apart.
		wantRecords(t, "a clash of two lengths", strings.Replace(a, pair[0], pair[1], 1), nil, 0)
	}
}

// checkRecords holds one disk against the rule, and asks that Record makes just what was taken.
func checkRecords(t *testing.T, disk string) int {
	t.Helper()
	list, n := impl.Records(disk)
	want, taken := recordsByRule(disk)
	if n != taken || !slices.Equal(list, want) {
		t.Fatalf("Records of %.80q: %.80q, %d, not %.80q, %d", disk, list, n, want, taken)
	}
	made := ""
	for _, text := range list {
		made += impl.Record(text)
	}
	if made != disk[:n] {
		t.Fatalf("Records of %.80q: Record makes %.80q", disk, made)
	}
	return len(list)
}

func TestRecordsOfAllShortDisks(t *testing.T) {
	for _, c := range []struct {
		letters string
		room    int
		right   int
	}{
		{"01 \n+-", 7, 1 + 6 + 36},
		{"01 \n", 9, 1 + 4 + 16 + 64 + 256},
	} {
		right := 0
		for _, data := range allOver([]byte(c.letters), c.room) {
			right += checkRecords(t, string(data))
		}
		// The empty text's Record alone is so short.
		if right != c.right {
			t.Fatal(right, c.right)
		}
	}
}

func TestRecordsOfAnyDisk(t *testing.T) {
	source := rand.New(rand.NewSource(33))
	counts := map[int]int{}
	for range 20000 {
		disk := ""
		for range source.Intn(5) {
			text := anyBytes(source, source.Intn(12))
			part := recordByRule(text)
			switch source.Intn(12) {
			case 0:
				part = string(changed(source, []byte(part)))
			case 1:
				part = lineOf(fmt.Sprint(source.Intn(14)), digestText(text), text)
			case 2:
				part = lineOf([]string{"", "0", "+", "-", " "}[source.Intn(5)]+fmt.Sprint(len(text)), digestText(text), text)
			}
			disk += part
		}
		if source.Intn(3) == 0 {
			disk = disk[:source.Intn(len(disk)+1)]
		}
		counts[checkRecords(t, disk)]++
	}
	for n := range 5 {
		if counts[n] < 200 {
			t.Fatal(counts)
		}
	}
	for _, text := range anyTexts(34, 300) {
		checkRecords(t, text)
	}
}

// journalBatches are batches that are not empty, with whatever a Key and a Value may be made of.
func journalBatches() map[string][]impl.Write {
	batches := rightBatches()
	delete(batches, "nil")
	delete(batches, "none")
	for name, batch := range map[string][]impl.Write{
		"blanks":                  {{Key: " ", Value: " "}, {Key: "a b", Value: " c  d "}},
		"bytes 10":                {{Key: "\n", Value: "\n\n"}, {Key: "a\nb", Value: "c\n"}},
		"empty Values":            {{Key: "a"}, {Key: "b"}, {Key: "c", Value: ""}},
		"Gone":                    {{Key: "a", Gone: true}},
		"Gone and not":            {{Key: "a", Gone: true}, {Key: "a"}, {Key: "b", Value: "x"}, {Key: "b", Gone: true}},
		"texts as Gone is told":   {{Key: "1", Value: "0"}, {Key: "0", Value: "1"}, {Key: "1", Gone: true}, {Key: "0"}},
		"a batch in a Value":      {{Key: "k", Value: textsWritten("k", "v", "0")}},
		"a Record in a Value":     {{Key: "k", Value: recordByRule("ab")}},
		"20, Gone":                slices.Repeat([]impl.Write{{Key: "k", Gone: true}}, 20),
		"20 of the greatest":      slices.Repeat([]impl.Write{{Key: strings.Repeat("\xff", 40), Value: strings.Repeat("\xff", 200)}}, 20),
		"a Value of 127":          {{Key: "k", Value: sized(127)}},
		"a Value of 128":          {{Key: "k", Value: sized(128)}},
		"the greatest, then Gone": {{Key: sized(40), Value: sized(200)}, {Key: sized(40), Gone: true}},
	} {
		batches[name] = batch
	}
	return batches
}

func TestBatchOfForms(t *testing.T) {
	for name, c := range map[string]struct {
		list []impl.Write
		want string
	}{
		"nil":                 {nil, ""},
		"none":                {[]impl.Write{}, ""},
		"one":                 {[]impl.Write{{Key: "k", Value: "v"}}, "\x03\x01k\x01v\x010"},
		"one Gone":            {[]impl.Write{{Key: "k", Gone: true}}, "\x03\x01k\x00\x011"},
		"one empty":           {[]impl.Write{{Key: "k"}}, "\x03\x01k\x00\x010"},
		"two":                 {[]impl.Write{{Key: "k", Value: "v"}, {Key: "g", Gone: true}}, "\x06\x01k\x01v\x010\x01g\x00\x011"},
		"two, the other way":  {[]impl.Write{{Key: "g", Gone: true}, {Key: "k", Value: "v"}}, "\x06\x01g\x00\x011\x01k\x01v\x010"},
		"a Value of 200":      {[]impl.Write{{Key: "\n ", Value: sized(200)}}, "\x03\x02\n \xc8\x01" + sized(200) + "\x010"},
		"20":                  {slices.Repeat([]impl.Write{{Key: "k"}}, 20), "\x3c" + strings.Repeat("\x01k\x00\x010", 20)},
		"21":                  {slices.Repeat([]impl.Write{{Key: "k"}}, 21), ""},
		"no Key":              {[]impl.Write{{Value: "v"}}, ""},
		"a zero Write":        {[]impl.Write{{}}, ""},
		"a Key of 41":         {[]impl.Write{{Key: sized(41)}}, ""},
		"a Value of 201":      {[]impl.Write{{Key: "k", Value: sized(201)}}, ""},
		"a Value beside Gone": {[]impl.Write{{Key: "k", Value: "v", Gone: true}}, ""},
		"the last one wrong":  {[]impl.Write{{Key: "k"}, {Key: "l"}, {}}, ""},
		"the first one wrong": {[]impl.Write{{}, {Key: "k"}, {Key: "l"}}, ""},
	} {
		if got := impl.Batch(c.list); got != c.want {
			t.Errorf("%s: %q", name, got)
		}
	}
}

func TestBatchByTheRule(t *testing.T) {
	for name, batch := range journalBatches() {
		got := impl.Batch(batch)
		if got != batchTextByRule(batch) || got == "" || got != string(impl.Texts(textsOfBatch(batch))) {
			t.Errorf("%s: %q", name, got)
		}
	}
	for name, batch := range wrongBatches() {
		if got := impl.Batch(batch); got != "" {
			t.Errorf("%s: %q", name, got)
		}
	}
}

// Just what Wrote takes into an empty tree is a batch.
func TestBatchOfWhatIsWritten(t *testing.T) {
	for _, batches := range []map[string][]impl.Write{rightBatches(), wrongBatches(), journalBatches()} {
		for name, batch := range batches {
			if _, is := impl.Wrote(impl.Tree{}, batch); is != (impl.Batch(batch) != "") && len(batch) > 0 {
				t.Errorf("%s: Wrote says %v", name, is)
			}
		}
	}
}

func TestReadBatchOfBatch(t *testing.T) {
	for name, batch := range journalBatches() {
		if got, is := impl.ReadBatch(impl.Batch(batch)); !is || !slices.Equal(got, batch) {
			t.Errorf("%s: %+v, %v", name, got, is)
		}
	}
	source := rand.New(rand.NewSource(35))
	keys := []string{"a", " ", "\n", "0", "1", "\x00\xff", sized(40)}
	for range 2000 {
		batch := anyBatch(source, keys, 1+source.Intn(20))
		if got, is := impl.ReadBatch(impl.Batch(batch)); !is || !slices.Equal(got, batch) {
			t.Fatalf("%+v: %+v, %v", batch, got, is)
		}
	}
}

func refuseBatch(t *testing.T, name string, s string) {
	t.Helper()
	if list, is := impl.ReadBatch(s); is || len(list) != 0 {
		t.Errorf("%s: ReadBatch of %.80q: %+v, %v", name, s, list, is)
	}
}

func TestReadBatchOfWrongOnes(t *testing.T) {
	refuseBatch(t, "a batch of none", impl.Batch(nil))
	for name, s := range map[string]string{
		"empty":                       "",
		"Texts of none":               "\x00",
		"Texts of none, longer":       "\x80\x00",
		"one text":                    textsWritten("k"),
		"two texts":                   textsWritten("k", "v"),
		"two texts, no Value":         textsWritten("k", "0"),
		"three empty texts":           textsWritten("", "", ""),
		"four texts":                  textsWritten("k", "v", "0", "l"),
		"four texts, one empty":       textsWritten("k", "v", "0", ""),
		"five texts":                  textsWritten("k", "v", "0", "l", "w"),
		"seven texts":                 textsWritten("k", "v", "0", "l", "w", "1", "m"),
		"2 for Gone":                  textsWritten("k", "v", "2"),
		"2 for Gone, no Value":        textsWritten("k", "", "2"),
		"an empty text for Gone":      textsWritten("k", "v", ""),
		"an empty text, no Value":     textsWritten("k", "", ""),
		"01 for Gone":                 textsWritten("k", "", "01"),
		"00 for Gone":                 textsWritten("k", "v", "00"),
		"10 for Gone":                 textsWritten("k", "", "10"),
		"11 for Gone":                 textsWritten("k", "", "11"),
		"-1 for Gone":                 textsWritten("k", "", "-1"),
		"+1 for Gone":                 textsWritten("k", "", "+1"),
		"a blank 1 for Gone":          textsWritten("k", "", " 1"),
		"1 and a blank for Gone":      textsWritten("k", "", "1 "),
		"true for Gone":               textsWritten("k", "", "true"),
		"a byte 0 for Gone":           textsWritten("k", "v", "\x00"),
		"a byte 1 for Gone":           textsWritten("k", "", "\x01"),
		"Gone behind a right one":     textsWritten("l", "w", "0", "k", "v", "2"),
		"Gone ahead of a right one":   textsWritten("k", "v", "", "l", "w", "0"),
		"a Value beside Gone":         textsWritten("k", "v", "1"),
		"no Key":                      textsWritten("", "v", "0"),
		"no Key, Gone":                textsWritten("", "", "1"),
		"a Key of 41":                 textsWritten(sized(41), "v", "0"),
		"a Value of 201":              textsWritten("k", sized(201), "0"),
		"a Value of 3000":             textsWritten("k", sized(3000), "0"),
		"a Value of 3001":             textsWritten("k", sized(3001), "0"),
		"a count too great":           "\x06\x01k\x01v\x010",
		"a count too little":          "\x03\x01k\x01v\x010\x01g\x00\x011",
		"a count of 0":                "\x00\x01k\x01v\x010",
		"a count that takes two":      "\x83\x00\x01k\x01v\x010",
		"a length that takes two":     "\x03\x81\x00k\x01v\x010",
		"a count past all":            "\xff\xff\xff\xff\xff\x1f\x01k\x01v\x010",
		"a length past all":           "\x03\xff\xff\xff\xff\xff\xff\xff\xff\x7fk\x01v\x010",
		"no bytes but a count":        "\x03",
		"decimals":                    "3 1 k 1 v 1 0",
		"a Record":                    recordByRule(textsWritten("k", "v", "0")),
		"Gone, Key, Value":            textsWritten("0", "k", "v"),
		"63 texts":                    textsWritten(textsOfBatch(slices.Repeat([]impl.Write{{Key: "k"}}, 21))...),
		"198 texts":                   textsWritten(textsOfBatch(slices.Repeat([]impl.Write{{Key: "k"}}, 66))...),
		"200 texts":                   textsWritten(repeated("0", 200)...),
		"201 texts":                   textsWritten(textsOfBatch(slices.Repeat([]impl.Write{{Key: "k"}}, 67))...),
		"300 texts":                   textsWritten(textsOfBatch(slices.Repeat([]impl.Write{{Key: "k"}}, 100))...),
		"a right one behind another":  textsWritten("k", "v", "0") + textsWritten("k", "v", "0"),
		"a right one behind a byte":   "\x00" + textsWritten("k", "v", "0"),
		"a right one behind a nought": "0" + textsWritten("k", "v", "0"),
	} {
		refuseBatch(t, name, s)
		if list, is := readBatchByRule(s); is {
			t.Errorf("%s: the rule reads %+v", name, list)
		}
	}
	for name, batch := range wrongBatches() {
		refuseBatch(t, name, textsWritten(textsOfBatch(batch)...))
	}
}

func checkReadBatch(t *testing.T, s string) bool {
	t.Helper()
	list, is := impl.ReadBatch(s)
	want, ok := readBatchByRule(s)
	if is != ok || !slices.Equal(list, want) {
		t.Fatalf("ReadBatch of %.80q: %+v, %v, not %+v, %v", s, list, is, want, ok)
	}
	if is && impl.Batch(list) != s {
		t.Fatalf("Batch of %+v is not %.80q", list, s)
	}
	return is
}

func TestReadBatchOfEachFirstPart(t *testing.T) {
	for name, batch := range journalBatches() {
		s := impl.Batch(batch)
		for n := range len(s) {
			refuseBatch(t, name+", a first part", s[:n])
		}
		for b := range 256 {
			refuseBatch(t, name+", a byte more", s+string([]byte{byte(b)}))
		}
		refuseBatch(t, name+", twice", s+s)
		refuseBatch(t, name+", without its count", s[1:])
	}
}

func TestReadBatchWithAnyByteChanged(t *testing.T) {
	right := 0
	for _, batch := range [][]impl.Write{
		{{Key: "k", Value: "v"}},
		{{Key: "k", Gone: true}},
		{{Key: "k"}},
		{{Key: "a b", Value: "1"}, {Key: "\n", Gone: true}, {Key: "0"}},
		{{Key: "k", Value: sized(130)}, {Key: "l", Gone: true}},
	} {
		s := impl.Batch(batch)
		for at := range len(s) {
			for b := range 256 {
				other := s[:at] + string([]byte{byte(b)}) + s[at+1:]
				if checkReadBatch(t, other) && other != s {
					right++
				}
				checkReadBatch(t, s[:at]+string([]byte{byte(b)})+s[at:])
			}
			checkReadBatch(t, s[:at]+s[at+1:])
		}
	}
	// A byte of a Key or a Value may be any other, and a Gone without a Value either one.
	if right < 1000 {
		t.Fatal(right)
	}
}

func TestReadBatchOfAllShortTexts(t *testing.T) {
	right := 0
	for _, data := range allOver([]byte("\x00\x01\x02\x0301k"), 7) {
		if checkReadBatch(t, string(data)) {
			right++
		}
	}
	// A Key of one or two of 7 letters with no Value, Gone or not, or with a Value of one letter.
	if want := 7*2 + 7*7*2 + 7*7; right != want {
		t.Fatal(right, want)
	}
}

func TestReadBatchOfAnyTexts(t *testing.T) {
	source := rand.New(rand.NewSource(36))
	said := map[bool]int{}
	// Most parts are right, so that one that is not is not always among others.
	one := func(right []string, odd ...string) string {
		if source.Intn(40) == 0 {
			return odd[source.Intn(len(odd))]
		}
		return right[source.Intn(len(right))]
	}
	for range 20000 {
		texts := []string{}
		for range 1 + source.Intn(22) {
			texts = append(texts, one([]string{"k", "a b", "\n", sized(40)}, "", sized(41)))
			gone := one([]string{"0", "1"}, "", "2", "01", "00")
			if gone == "1" {
				texts = append(texts, one([]string{""}, "v", sized(200)), gone)
			} else {
				texts = append(texts, one([]string{"", "v", sized(200)}, sized(201)), gone)
			}
		}
		if source.Intn(10) == 0 {
			texts = texts[:source.Intn(len(texts))]
		}
		said[checkReadBatch(t, textsWritten(texts...))]++
	}
	if said[true] < 2000 || said[false] < 2000 {
		t.Fatal(said)
	}
	for _, text := range anyTexts(37, 1000) {
		checkReadBatch(t, text)
	}
}

func TestReadBatchWithAnythingChanged(t *testing.T) {
	source := rand.New(rand.NewSource(38))
	said := map[bool]int{}
	for range 20000 {
		batch := anyBatch(source, []string{"a", "bc", " ", "\n1"}, 1+source.Intn(20))
		data := []byte(impl.Batch(batch))
		for range source.Intn(3) {
			data = changed(source, data)
		}
		said[checkReadBatch(t, string(data))]++
	}
	if said[true] < 2000 || said[false] < 2000 {
		t.Fatal(said)
	}
}

// A journal of batches: wherever it is cut, its first batches are there.
func TestBatchesOfAJournalThatIsCut(t *testing.T) {
	source := rand.New(rand.NewSource(39))
	for range 200 {
		disk, ends, batches := "", []int{}, [][]impl.Write{}
		for range source.Intn(6) {
			batch := anyBatch(source, []string{"a", "\n", " b ", "0 1\n\n"}, 1+source.Intn(5))
			disk += impl.Record(impl.Batch(batch))
			ends, batches = append(ends, len(disk)), append(batches, batch)
		}
		for at := range len(disk) + 1 {
			list, n := impl.Records(disk[:at])
			for i, text := range list {
				if batch, is := impl.ReadBatch(text); !is || !slices.Equal(batch, batches[i]) {
					t.Fatalf("cut at %d: batch %d is %+v", at, i, batch)
				}
			}
			if len(list) < len(ends) && ends[len(list)] <= at || len(list) > 0 && int64(ends[len(list)-1]) != n {
				t.Fatalf("cut at %d: %d batches, %d bytes of %v", at, len(list), n, ends)
			}
		}
	}
}

// textSpan is where the bytes of a text lie; those of one byte may be the library's own.
func textSpan(s string) []span {
	if len(s) < 2 {
		return nil
	}
	from := uintptr(unsafe.Pointer(unsafe.StringData(s)))
	return []span{{from, from + uintptr(len(s))}}
}

func textSpans(texts ...string) []span {
	spans := []span{}
	for _, s := range texts {
		spans = append(spans, textSpan(s)...)
	}
	return spans
}

func overlap(own []span, others []span) bool {
	for _, a := range own {
		for _, b := range others {
			if a.from < b.to && b.from < a.to {
				return true
			}
		}
	}
	return false
}

// keptDisks are disks of all kinds, each in memory that can be written over.
func keptDisks() [][]byte {
	disks := [][]byte{{}, []byte("no Record"), []byte("0 1\n\n"), []byte("2 1524104547\nab"), []byte(sized(20000))}
	for _, texts := range journalDisks() {
		disk, _ := diskOf(texts)
		disks = append(disks, []byte(disk), []byte(disk[:len(disk)-1]), []byte(disk+"x"))
	}
	return disks
}

// aliased is a text over these bytes, so that what is written into them is seen in it.
func aliased(data []byte) string {
	return unsafe.String(unsafe.SliceData(data), len(data))
}

// A text that an answer has is no part of the disk: the disk may go, and be written over.
func TestRecordsShareNothingWithTheDisk(t *testing.T) {
	for _, data := range keptDisks() {
		want, _ := recordsByRule(string(data))
		before := string(data)
		list, _ := impl.Records(aliased(data))
		if string(data) != before {
			t.Fatalf("%.80q was changed", before)
		}
		if overlap(textSpans(list...), textSpan(aliased(data))) {
			t.Fatalf("%.80q: a text lies in the disk", before)
		}
		clear(data)
		if !slices.Equal(list, want) {
			t.Fatalf("%.80q: the disk was cleared, and the answer with it", before)
		}
	}
}

func TestRecordSharesNothingWithTheText(t *testing.T) {
	for name, text := range recordTexts() {
		data := []byte(text)
		got := impl.Record(aliased(data))
		if string(data) != text || overlap(textSpan(got), textSpan(aliased(data))) {
			t.Errorf("%s: the text's memory", name)
		}
		clear(data)
		if got != recordByRule(text) {
			t.Errorf("%s: the text was cleared, and the answer with it", name)
		}
	}
}

func TestReadBatchSharesNothingWithTheText(t *testing.T) {
	for name, batch := range journalBatches() {
		s := impl.Batch(batch)
		data := []byte(s)
		list, is := impl.ReadBatch(aliased(data))
		if string(data) != s || overlap(textSpans(textsOfBatch(list)...), textSpan(aliased(data))) {
			t.Errorf("%s: the text's memory", name)
		}
		clear(data)
		if !is || !slices.Equal(list, batch) {
			t.Errorf("%s: the text was cleared, and the answer with it", name)
		}
	}
}

func TestBatchLeavesItsArgument(t *testing.T) {
	batches := journalBatches()
	for name, batch := range wrongBatches() {
		batches["wrong: "+name] = batch
	}
	batches["nil"], batches["none"] = nil, []impl.Write{}
	for name, batch := range batches {
		// What is behind would make a batch of none, and none of a batch.
		for _, behind := range [][]impl.Write{{{Key: "behind", Value: "b"}}, {{}, {}}, batchOf(30)} {
			wide := roomy(batch, behind...)
			lie, before := spansOf(reflect.ValueOf(wide)), withItsRoom(reflect.ValueOf(wide))
			got := impl.Batch(wide)
			if got != impl.Batch(slices.Clip(slices.Clone(batch))) || got != batchTextByRule(batch) {
				t.Fatalf("%s: hangs on the room", name)
			}
			if !reflect.DeepEqual(withItsRoom(reflect.ValueOf(wide)).Interface(), before.Interface()) || !slices.Equal(lie, spansOf(reflect.ValueOf(wide))) {
				t.Fatalf("%s: changed its argument", name)
			}
			if overlap(textSpan(got), slices.Concat(lie, textSpans(textsOfBatch(wide)...))) {
				t.Fatalf("%s: shares memory", name)
			}
		}
	}
}

func TestRecordsGiveNewMemory(t *testing.T) {
	for _, data := range keptDisks() {
		disk := string(data)
		first, _ := impl.Records(disk)
		want := slices.Clone(first)
		second, _ := impl.Records(disk)
		if sharesMemory(first, second) {
			t.Fatalf("%.80q: two answers share memory", disk)
		}
		spoil(first, "spoilt")
		third, _ := impl.Records(disk)
		if !slices.Equal(second, want) || !slices.Equal(third, want) {
			t.Fatalf("%.80q: two answers share memory", disk)
		}
	}
}

func TestReadBatchGivesNewMemory(t *testing.T) {
	texts := []string{"", "\x00", "no batch", textsWritten("k", "v", "2")}
	for _, batch := range journalBatches() {
		texts = append(texts, impl.Batch(batch))
	}
	for _, s := range texts {
		first, _ := impl.ReadBatch(s)
		want := slices.Clone(first)
		second, _ := impl.ReadBatch(s)
		if sharesMemory(first, second) {
			t.Fatalf("%.80q: two answers share memory", s)
		}
		spoil(first, impl.Write{Key: "spoilt"})
		third, _ := impl.ReadBatch(s)
		if !slices.Equal(second, want) || !slices.Equal(third, want) {
			t.Fatalf("%.80q: two answers share memory", s)
		}
	}
}
