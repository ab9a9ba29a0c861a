package tests

import (
	"bytes"
	"encoding/binary"
	"fmt"
	"math/rand"
	"slices"
	"strings"
	"testing"

	"loop.example/g00217/impl"
)

// row is an entry as chapter 4 writes it, with whatever parts a test asks for.
func row(common uint64, rest string, stamp uint64, value string) []byte {
	data := binary.AppendUvarint(nil, common)
	data = append(binary.AppendUvarint(data, uint64(len(rest))), rest...)
	data = binary.AppendUvarint(data, stamp)
	return append(binary.AppendUvarint(data, uint64(len(value))), value...)
}

// rows has a count ahead, that of the rows or another one.
func rows(count uint64, list ...[]byte) []byte {
	return join(binary.AppendUvarint(nil, count), join(list...))
}

func commonByRule(a string, b string) int {
	n := 0
	for n < len(a) && n < len(b) && a[:n+1] == b[:n+1] {
		n++
	}
	return n
}

// writtenOut packs by the rule, whether the entries are right or not.
func writtenOut(list []impl.Entry) []byte {
	written := [][]byte{}
	for i, e := range list {
		common, stamp := 0, uint64(2*e.Seq)
		if i%8 != 0 {
			common = commonByRule(list[i-1].Key, e.Key)
		}
		if e.Gone {
			stamp++
		}
		written = append(written, row(uint64(common), e.Key[common:], stamp, e.Value))
	}
	return rows(uint64(len(list)), written...)
}

func packedByRule(list []impl.Entry) []byte {
	if !entriesByRule(list) {
		return nil
	}
	return writtenOut(list)
}

// unpackedByRule reads what it can, and asks the rule whether just that makes the data.
func unpackedByRule(data []byte) ([]impl.Entry, bool) {
	list, rest, ok := []impl.Entry{}, data, true
	number := func() uint64 {
		n, size := binary.Uvarint(rest)
		if size <= 0 {
			ok = false
			return 0
		}
		rest = rest[size:]
		return n
	}
	text := func() string {
		size := number()
		if size > uint64(len(rest)) {
			ok = false
			return ""
		}
		s := string(rest[:size])
		rest = rest[size:]
		return s
	}
	number()
	for ahead := ""; ok && len(rest) > 0 && len(list) < 400; {
		common := number()
		if common > uint64(len(ahead)) {
			return nil, false
		}
		ahead = ahead[:common] + text()
		stamp, value := number(), text()
		list = append(list, impl.Entry{Key: ahead, Value: value, Seq: int64(stamp / 2), Gone: stamp%2 == 1})
	}
	if made := packedByRule(list); !ok || made == nil || !bytes.Equal(made, data) {
		return nil, false
	}
	return list, true
}

// packForms has entries in the bytes that chapter 4 asks for, worked out by hand.
func packForms() map[string]struct {
	list []impl.Entry
	data string
} {
	key, value := strings.Repeat("k", 40), strings.Repeat("v", 200)
	return map[string]struct {
		list []impl.Entry
		data string
	}{
		"nil":                {nil, "\x00"},
		"none":               {[]impl.Entry{}, "\x00"},
		"one":                {[]impl.Entry{written("k", "v", 5)}, "\x01\x00\x01k\x0a\x01v"},
		"one, of no Value":   {[]impl.Entry{written("k", "", 5)}, "\x01\x00\x01k\x0a\x00"},
		"one, Gone":          {[]impl.Entry{goneAt("k", 5)}, "\x01\x00\x01k\x0b\x00"},
		"Seq 1":              {[]impl.Entry{written("k", "", 1)}, "\x01\x00\x01k\x02\x00"},
		"Seq 1, Gone":        {[]impl.Entry{goneAt("k", 1)}, "\x01\x00\x01k\x03\x00"},
		"Seq 63, Gone":       {[]impl.Entry{goneAt("k", 63)}, "\x01\x00\x01k\x7f\x00"},
		"Seq 64":             {[]impl.Entry{written("k", "", 64)}, "\x01\x00\x01k\x80\x01\x00"},
		"Seq MaxSeq":         {[]impl.Entry{written("k", "", 1000000)}, "\x01\x00\x01k\x80\x89\x7a\x00"},
		"Seq MaxSeq, Gone":   {[]impl.Entry{goneAt("k", 1000000)}, "\x01\x00\x01k\x81\x89\x7a\x00"},
		"Key of MaxKey":      {[]impl.Entry{written(key, "v", 5)}, "\x01\x00\x28" + key + "\x0a\x01v"},
		"Key of a nought":    {[]impl.Entry{written("\x00", "\x00", 5)}, "\x01\x00\x01\x00\x0a\x01\x00"},
		"Value of 127":       {[]impl.Entry{written("k", value[:127], 5)}, "\x01\x00\x01k\x0a\x7f" + value[:127]},
		"Value of 128":       {[]impl.Entry{written("k", value[:128], 5)}, "\x01\x00\x01k\x0a\x80\x01" + value[:128]},
		"Value of MaxValue":  {[]impl.Entry{written("k", value, 5)}, "\x01\x00\x01k\x0a\xc8\x01" + value},
		"nothing in common":  {[]impl.Entry{written("a", "x", 1), written("b", "x", 1)}, "\x02\x00\x01a\x02\x01x\x00\x01b\x02\x01x"},
		"one begins another": {[]impl.Entry{written("a", "", 1), written("ab", "", 1)}, "\x02\x00\x01a\x02\x00\x01\x01b\x02\x00"},
		"in part alike":      {[]impl.Entry{written("abc", "v", 5), goneAt("abd", 2)}, "\x02\x00\x03abc\x0a\x01v\x02\x01d\x05\x00"},
		"part of a rune":     {[]impl.Entry{written("ä", "", 1), written("ö", "", 1)}, "\x02\x00\x02\xc3\xa4\x02\x00\x01\x01\xb6\x02\x00"},
		"one Key, several Seqs": {
			[]impl.Entry{written("key", "c", 9), goneAt("key", 4), written("key", "a", 1)},
			"\x03\x00\x03key\x12\x01c\x03\x00\x09\x00\x03\x00\x02\x01a",
		},
		"one Key of MaxKey": {
			[]impl.Entry{written(key, "", 2), written(key, "", 1)},
			"\x02\x00\x28" + key + "\x04\x00\x28\x00\x02\x00",
		},
		"39 in common": {
			[]impl.Entry{written(key[1:], "", 2), written(key, "", 1)},
			"\x02\x00\x27" + key[1:] + "\x04\x00\x27\x01k\x02\x00",
		},
		"the ninth begins anew": {
			history("key", 9),
			"\x09\x00\x03key\x12\x01v\x03\x00\x10\x01v\x03\x00\x0e\x01v\x03\x00\x0c\x01v\x03\x00\x0a\x01v\x03\x00\x08\x01v\x03\x00\x06\x01v\x03\x00\x04\x01v" +
				"\x00\x03key\x02\x01v",
		},
	}
}

// packLists has right lists of all sizes about eight, sixteen and MaxEntries, beside those of chapter 3.
func packLists() map[string][]impl.Entry {
	lists := rightLists()
	for _, n := range []int{1, 2, 7, 8, 9, 10, 15, 16, 17, 24, 25, 127, 128, 129, 296, 297, 299, 300} {
		lists[fmt.Sprint(n, " Keys")] = numbered(n)
		lists[fmt.Sprint(n, " of one Key")] = history("one key", n)
		lists[fmt.Sprint(n, " Gone")] = goneOnes(n)
	}
	lists["MaxEntries, as great as can be"] = great(300)
	for name, c := range packForms() {
		lists[name+", by hand"] = c.list
	}
	return lists
}

func goneOnes(n int) []impl.Entry {
	list := []impl.Entry{}
	for i := range n {
		list = append(list, goneAt(strings.Repeat("x", i%7)+"y", int64(1000-i)))
	}
	slices.SortStableFunc(list, func(a, b impl.Entry) int { return strings.Compare(a.Key, b.Key) })
	return list
}

// great has n entries, each with a Key of MaxKey and a Value of MaxValue bytes, and a Seq near MaxSeq.
func great(n int) []impl.Entry {
	list := []impl.Entry{}
	for i := range n {
		list = append(list, written(fmt.Sprintf("%s%04d", strings.Repeat("k", 36), i), strings.Repeat("v", 200), int64(1000000-i%3)))
	}
	return list
}

func TestCommonOfTheForms(t *testing.T) {
	long := strings.Repeat("long ", 1000)
	for _, c := range []struct {
		a, b string
		want int64
	}{
		{"", "", 0},
		{"", "a", 0},
		{"", "\x00", 0},
		{"a", "a", 1},
		{"cairn", "cairn", 5},
		{"\x00", "\x00", 1},
		{"\x00", "\x00\x00", 1},
		{"a", "ab", 1},
		{"cair", "cairn", 4},
		{"abc", "abd", 2},
		{"abc", "bbc", 0},
		{"ab", "ba", 0},
		{"a", "A", 0},
		{"\x7f", "\xff", 0},
		{"abcabc", "abcxbc", 3},
		{"xbc", "abc", 0},
		{"ä", "ö", 1},
		{"ää", "äö", 3},
		{"\xff\xfe", "\xff\xfd", 1},
		{long, long, 5000},
		{long, long[:4999], 4999},
		{long[1:], long, 0},
		{long + "a", long + "b", 5000},
		{strings.Repeat("x", 300), strings.Repeat("x", 299) + "y", 299},
	} {
		for _, pair := range [][2]string{{c.a, c.b}, {c.b, c.a}} {
			if got := impl.Common(pair[0], pair[1]); got != c.want {
				t.Errorf("Common(%.9q, %.9q) = %d, not %d", pair[0], pair[1], got, c.want)
			}
		}
	}
}

func TestCommonIsTheRule(t *testing.T) {
	texts := allOver([]byte{0, 'a', 0xff}, 4)
	for _, a := range texts {
		for _, b := range texts {
			if got := impl.Common(string(a), string(b)); got != int64(commonByRule(string(a), string(b))) {
				t.Fatalf("Common(%q, %q) = %d", a, b, got)
			}
		}
	}
}

func TestPackedOfTheForms(t *testing.T) {
	for name, c := range packForms() {
		if got := impl.Packed(c.list); string(got) != c.data {
			t.Errorf("%s: %q, not %q", name, got, c.data)
		}
		if list, ok := impl.Unpacked([]byte(c.data)); !ok || !slices.Equal(list, c.list) {
			t.Errorf("%s: %v, %v", name, list, ok)
		}
	}
}

func TestPackedIsTheRule(t *testing.T) {
	for name, list := range packLists() {
		if got, want := impl.Packed(list), packedByRule(list); want == nil || !bytes.Equal(got, want) {
			t.Errorf("%s: %q, not %q", name, got, want)
		}
	}
}

// At an eighth one nothing is common, whatever the Keys have in common; at each other one all of it is.
func TestPackedBeginsAnewAtEachEighth(t *testing.T) {
	data := impl.Packed(history("stone", 300))[2:]
	for i := range 300 {
		want := "\x05\x00"
		if i%8 == 0 {
			want = "\x00\x05stone"
		}
		if !strings.HasPrefix(string(data), want) {
			t.Fatalf("number %d: %q", i, data[:min(len(data), 8)])
		}
		data = data[len(want):]
		_, size := impl.ReadNumber(data)
		_, behind := impl.ReadText(data[size:])
		data = data[size+behind:]
	}
	if len(data) != 0 {
		t.Fatalf("%q", data)
	}
}

func TestPackedOfWrongLists(t *testing.T) {
	for name, list := range wrongLists() {
		if got := impl.Packed(list); len(got) != 0 {
			t.Errorf("%s: %q", name, got)
		}
	}
}

// Promise 4.
func TestUnpackedOfPacked(t *testing.T) {
	for name, list := range packLists() {
		if got, ok := impl.Unpacked(impl.Packed(list)); !ok || !slices.Equal(got, list) {
			t.Errorf("%s: %v, %v", name, got, ok)
		}
	}
}

// anyRightList is of Keys that have much in common.
func anyRightList(source *rand.Rand, size int) []impl.Entry {
	keys := []string{}
	for _, key := range allOver([]byte{'a', 'b', 0xff}, 3)[1:] {
		keys = append(keys, string(key), strings.Repeat("s", 37)+string(key))
	}
	list := []impl.Entry{}
	for range size {
		if next, ok := impl.Put(list, anyEntry(source, keys, 1+source.Int63n(1000000))); ok {
			list = next
		}
	}
	return list
}

func TestUnpackedOfPackedOfAnyList(t *testing.T) {
	source := rand.New(rand.NewSource(5))
	for range 300 {
		list := anyRightList(source, source.Intn(60))
		data := impl.Packed(list)
		if !bytes.Equal(data, packedByRule(list)) {
			t.Fatalf("%v: %q", list, data)
		}
		if got, ok := impl.Unpacked(data); !ok || !slices.Equal(got, list) {
			t.Fatalf("%v: %v, %v", list, got, ok)
		}
	}
}

func refuseUnpacked(t *testing.T, name string, data []byte) {
	t.Helper()
	if list, ok := impl.Unpacked(data); ok || len(list) != 0 {
		t.Errorf("%s: %.99q: %d entries, %v", name, data, len(list), ok)
	}
}

// Of each shorter part of the data, with the rest of them in the spare room behind it and without.
func TestUnpackedOfEachPart(t *testing.T) {
	for name, list := range packLists() {
		data := packedByRule(list)
		step := 1 + len(data)/500
		for i := 0; i < len(data); i += step {
			refuseUnpacked(t, fmt.Sprint(name, ", the first ", i), data[:i])
			refuseUnpacked(t, fmt.Sprint(name, ", the first ", i, " alone"), slices.Clip(bytes.Clone(data[:i])))
		}
		refuseUnpacked(t, name+", but the last byte", data[:len(data)-1])
		refuseUnpacked(t, name+", but the first byte", data[1:])
	}
}

func TestUnpackedWithBytesBehind(t *testing.T) {
	for name, list := range packLists() {
		for _, behind := range []string{"\x00", "\x01", "\x80", "\xff", "a", "\x00\x00", "\x00\x01z\x02\x00", "\x00\x01\xff\x02\x00"} {
			refuseUnpacked(t, name, join(packedByRule(list), []byte(behind)))
		}
	}
}

func TestUnpackedOfNoData(t *testing.T) {
	refuseUnpacked(t, "nil", nil)
	refuseUnpacked(t, "no bytes", []byte{})
	refuseUnpacked(t, "no bytes, but room", []byte{0}[:0])
}

func TestUnpackedOfAnotherCommon(t *testing.T) {
	abc, anew := row(0, "abc", 10, "v"), row(0, "one key", 2, "v")
	eight := bytes.TrimSuffix(packedByRule(history("one key", 9)), anew)
	for name, data := range map[string][]byte{
		"none, of two":             rows(2, abc, row(0, "abd", 5, "")),
		"one less, of two":         rows(2, abc, row(1, "bd", 5, "")),
		"one less, of a whole Key": rows(2, abc, row(2, "c", 8, "v")),
		"none, of a whole Key":     rows(2, abc, row(0, "abc", 8, "v")),
		"none, of one it begins":   rows(2, abc, row(0, "abcd", 8, "v")),
		"past the Key ahead":       rows(2, abc, row(4, "d", 5, "")),
		"past it by far":           rows(2, abc, row(1<<40, "d", 5, "")),
		"past it, nothing behind":  rows(2, abc, row(4, "", 8, "v")),
		"out of Number's range":    rows(2, abc, row(1<<40+3, "d", 5, "")),
		"negative, of 64 bits":     rows(2, abc, row(1<<64-1, "d", 5, "")),
		"at the first one":         rows(1, row(1, "a", 2, "")),
		"at the first, no rest":    rows(1, row(1, "", 2, "")),
		"at the first, by far":     rows(1, row(300, "a", 2, "")),
		"at the ninth, all":        join(eight, row(7, "", 2, "v")),
		"at the ninth, one":        join(eight, row(1, "ne key", 2, "v")),
		"at the ninth, too many":   join(eight, row(8, "", 2, "v")),
		"at the ninth, unlike":     join(eight, row(1, "ther", 2, "v")),
	} {
		refuseUnpacked(t, name, data)
	}
	for name, data := range map[string][]byte{
		"two":                rows(2, abc, row(2, "d", 5, "")),
		"a whole Key":        rows(2, abc, row(3, "", 8, "v")),
		"one that it begins": rows(2, abc, row(3, "d", 8, "v")),
		"none at the ninth":  join(eight, anew),
	} {
		if list, ok := impl.Unpacked(data); !ok || !bytes.Equal(packedByRule(list), data) {
			t.Errorf("%s: %v, %v", name, list, ok)
		}
	}
}

// Of each place of a list of 25 the Common is asked: it is the one that Packed tells, and no other.
func TestUnpackedOfEachCommon(t *testing.T) {
	list := history("stone", 25)
	for at := range list {
		for common := range uint64(7) {
			written := [][]byte{}
			for i, e := range list {
				right := min(i%8, 1) * 5
				if i == at {
					right = int(common)
				}
				written = append(written, row(uint64(right), e.Key[min(right, 5):], uint64(2*e.Seq), e.Value))
			}
			got, ok := impl.Unpacked(rows(25, written...))
			if ok != (int(common) == min(at%8, 1)*5) || ok && !slices.Equal(got, list) || !ok && len(got) != 0 {
				t.Fatalf("Common %d at %d: %d entries, %v", common, at, len(got), ok)
			}
		}
	}
}

func TestUnpackedOfNeedlessBytes(t *testing.T) {
	for name, data := range map[string]string{
		"count of none":          "\x80\x00",
		"count of one":           "\x81\x00\x00\x01k\x0a\x01v",
		"Common":                 "\x01\x80\x00\x01k\x0a\x01v",
		"Common of the second":   "\x02\x00\x01k\x0a\x01v\x81\x00\x01l\x0a\x01v",
		"size of the Key":        "\x01\x00\x81\x00k\x0a\x01v",
		"Seq":                    "\x01\x00\x01k\x8a\x00\x01v",
		"Seq, of three bytes":    "\x01\x00\x01k\x80\x81\x00\x01v",
		"size of the Value":      "\x01\x00\x01k\x0a\x81\x00v",
		"size of an empty Value": "\x01\x00\x01k\x0a\x80\x00",
	} {
		refuseUnpacked(t, name, []byte(data))
	}
}

func TestUnpackedOfAnotherCount(t *testing.T) {
	for name, list := range packLists() {
		data := packedByRule(list)
		_, size := binary.Uvarint(data)
		for _, count := range []int{0, 1, len(list) - 1, len(list) + 1, len(list) + 8, 300, 301, 1000, 1 << 40, 1<<40 + 1, 1<<63 - 1} {
			if count >= 0 && count != len(list) {
				refuseUnpacked(t, fmt.Sprint(name, ", as ", count), rows(uint64(count), data[size:]))
			}
		}
	}
	refuseUnpacked(t, "no number", bytes.Repeat([]byte{0xff}, 20))
	refuseUnpacked(t, "MaxEntries + 1", writtenOut(numbered(301)))
	refuseUnpacked(t, "MaxEntries + 1, one Key", writtenOut(history("k", 301)))
	refuseUnpacked(t, "1000", writtenOut(numbered(1000)))
}

func TestUnpackedOfWrongEntries(t *testing.T) {
	asked := 0
	for name, list := range wrongLists() {
		// A Seq that no Number tells can't be written at all.
		if slices.ContainsFunc(list, func(e impl.Entry) bool { return e.Seq < 0 || e.Seq > 1<<39 }) {
			continue
		}
		asked++
		refuseUnpacked(t, name, writtenOut(list))
	}
	if asked < 40 {
		t.Fatal(asked)
	}
	for name, data := range map[string][]byte{
		"Value beside Gone":      rows(1, row(0, "k", 5, "v")),
		"out of order by Key":    rows(2, row(0, "b", 2, ""), row(0, "a", 4, "")),
		"one Key, lesser Seq":    rows(2, row(0, "k", 2, ""), row(1, "", 4, "")),
		"one Key and Seq":        rows(2, row(0, "k", 4, ""), row(1, "", 4, "")),
		"one Key and Seq, Gone":  rows(2, row(0, "k", 4, ""), row(1, "", 5, "")),
		"Seq 0":                  rows(1, row(0, "k", 0, "")),
		"Seq 0, Gone":            rows(1, row(0, "k", 1, "")),
		"Seq MaxSeq + 1":         rows(1, row(0, "k", 2000002, "")),
		"Seq MaxSeq + 1, Gone":   rows(1, row(0, "k", 2000003, "")),
		"Seq of MaxNumber":       rows(1, row(0, "k", 1<<40, "")),
		"Seq past MaxNumber":     rows(1, row(0, "k", 1<<40+2, "")),
		"Seq past 64 bits":       rows(1, row(0, "k", 1<<63+2, "")),
		"Key of 0":               rows(1, row(0, "", 2, "")),
		"Key of MaxKey + 1":      rows(1, row(0, strings.Repeat("k", 41), 2, "")),
		"Key of MaxKey + 1 by 2": rows(2, row(0, strings.Repeat("k", 40), 2, ""), row(40, "k", 2, "")),
		"Key of MaxText":         rows(1, row(0, strings.Repeat("k", 3000), 2, "")),
		"Key of MaxText + 1":     rows(1, row(0, strings.Repeat("k", 3001), 2, "")),
		"Value of MaxValue + 1":  rows(1, row(0, "k", 2, strings.Repeat("v", 201))),
		"Value of MaxText + 1":   rows(1, row(0, "k", 2, strings.Repeat("v", 3001))),
		"Keys that grow":         rows(3, row(0, "k", 2, ""), row(1, strings.Repeat("k", 3000), 2, ""), row(3001, strings.Repeat("k", 3000), 2, "")),
	} {
		refuseUnpacked(t, name, data)
	}
}

func isOver(letters []byte, data []byte) bool {
	return !slices.ContainsFunc(data, func(b byte) bool { return !slices.Contains(letters, b) })
}

// packedOver has every list over these bytes whose data are at most room bytes long, by its data.
func packedOver(letters []byte, room int) map[string][]impl.Entry {
	made := map[string][]impl.Entry{}
	add := func(list ...impl.Entry) bool {
		data := packedByRule(list)
		if data == nil || len(data) > room || !isOver(letters, data) {
			return false
		}
		made[string(data)] = list
		return true
	}
	add()
	stamps := []int64{}
	for stamp := range int64(1 << 14) {
		if isOver(letters, binary.AppendUvarint(nil, uint64(stamp))) {
			stamps = append(stamps, stamp)
		}
	}
	short := []impl.Entry{}
	for _, key := range allOver(letters, room-5) {
		for _, value := range allOver(letters, room-5-len(key)) {
			for _, stamp := range stamps {
				e := impl.Entry{Key: string(key), Value: string(value), Seq: stamp / 2, Gone: stamp%2 == 1}
				// Of two entries the data have no room for more than a byte or two of Keys and Values.
				if add(e) && len(key)+len(value) <= 2 {
					short = append(short, e)
				}
			}
		}
	}
	for _, a := range short {
		for _, b := range short {
			add(a, b)
		}
	}
	return made
}

// All short data over a few bytes: entries are read just where Packed makes the data.
func TestUnpackedOfAllShortData(t *testing.T) {
	for _, c := range []struct {
		letters []byte
		room    int
	}{
		{[]byte{0, 1, 2, 4}, 10},
		{[]byte{0, 1, 2, 3, 4}, 8},
		{[]byte{0, 1, 2, 3, 0x80, 0x82}, 7},
	} {
		made := packedOver(c.letters, c.room)
		read := 0
		for _, data := range allOver(c.letters, c.room) {
			want, is := made[string(data)]
			list, ok := impl.Unpacked(data)
			if ok != is || !slices.Equal(list, want) {
				t.Fatalf("%x: %v, %v, not %v, %v", data, list, ok, want, is)
			}
			if ok {
				read++
			}
		}
		if read != len(made) || read < 10 {
			t.Fatal(c.letters, read, len(made))
		}
	}
}

// changed has a byte of the data changed, taken out or put in.
func changed(source *rand.Rand, data []byte) []byte {
	at := source.Intn(len(data))
	b := byte(source.Intn(256) >> source.Intn(8))
	switch source.Intn(4) {
	case 0:
		return join(data[:at], data[at+1:])
	case 1:
		return join(data[:at], []byte{b}, data[at:])
	case 2:
		return join(data[:at], []byte{data[at] ^ 1<<source.Intn(8)}, data[at+1:])
	default:
		return join(data[:at], []byte{b}, data[at+1:])
	}
}

func TestUnpackedOfChangedData(t *testing.T) {
	source := rand.New(rand.NewSource(6))
	read, refused := 0, 0
	for range 40000 {
		data := packedByRule(anyRightList(source, source.Intn(20)))
		for range 1 + source.Intn(3) {
			if len(data) > 0 {
				data = changed(source, data)
			}
		}
		want, is := unpackedByRule(data)
		list, ok := impl.Unpacked(data)
		if ok != is || !slices.Equal(list, want) {
			t.Fatalf("%q: %v, %v, not %v, %v", data, list, ok, want, is)
		}
		if ok {
			read++
		} else {
			refused++
		}
	}
	if read < 1000 || refused < 1000 {
		t.Fatal(read, refused)
	}
}

func TestUnpackedOfAnyData(t *testing.T) {
	source := rand.New(rand.NewSource(7))
	for range 100000 {
		data := make([]byte, source.Intn(40))
		for i := range data {
			data[i] = byte(source.Intn(256) >> source.Intn(8))
		}
		want, is := unpackedByRule(data)
		if list, ok := impl.Unpacked(data); ok != is || !slices.Equal(list, want) {
			t.Fatalf("%q: %v, %v, not %v, %v", data, list, ok, want, is)
		}
	}
}

// dataOfPack are data that are read, and such as are not.
func dataOfPack() [][]byte {
	all := [][]byte{nil, {}, {1}, {0, 0}, bytes.Repeat([]byte{0xff}, 300), rows(2, row(0, "abc", 10, "v"), row(1, "bd", 5, ""))}
	for _, list := range packLists() {
		data := packedByRule(list)
		all = append(all, data, data[:len(data)/2], join(data, []byte{0}))
	}
	return all
}

func TestPackLeavesItsArguments(t *testing.T) {
	for _, list := range append(memoryLists(), great(300)) {
		room := append(slices.Clone(list), numbered(40)...)
		before := slices.Clone(room)
		if got := impl.Packed(room[:len(list)]); !bytes.Equal(got, impl.Packed(slices.Clip(slices.Clone(list)))) {
			t.Fatal("Packed hangs on the room", list)
		}
		if !slices.Equal(room, before) {
			t.Fatal("an argument was changed", before[:len(list)])
		}
	}
	for _, data := range dataOfPack() {
		for _, behind := range []byte{0, 1, 0xee} {
			room := join(data, bytes.Repeat([]byte{behind}, 40))
			before := bytes.Clone(room)
			got, ok := impl.Unpacked(room[:len(data)])
			if want, is := impl.Unpacked(slices.Clip(bytes.Clone(data))); ok != is || !slices.Equal(got, want) {
				t.Fatalf("Unpacked hangs on the room: %q", data)
			}
			if !bytes.Equal(room, before) {
				t.Fatalf("an argument was changed: %q", before[:len(data)])
			}
		}
	}
}

func TestPackedGivesNewMemory(t *testing.T) {
	for _, list := range append(memoryLists(), great(300)) {
		room := append(slices.Clone(list), numbered(40)...)
		before := slices.Clone(room)
		first := impl.Packed(room[:len(list)])
		want := bytes.Clone(first)
		second := impl.Packed(room[:len(list)])
		spoil(first, 0xee)
		if !slices.Equal(room, before) {
			t.Fatal("the answer shares memory with", before[:len(list)])
		}
		spoil(room, written("spoilt", "spoilt", 77))
		if third := impl.Packed(before[:len(list)]); !bytes.Equal(second, want) || !bytes.Equal(third, want) {
			t.Fatal("two answers share memory, or one with", before[:len(list)])
		}
	}
}

func TestUnpackedGivesNewMemory(t *testing.T) {
	for _, data := range dataOfPack() {
		room := join(data, bytes.Repeat([]byte{0xee}, 40))
		before := bytes.Clone(room)
		first, _ := impl.Unpacked(room[:len(data)])
		want := slices.Clone(first)
		second, _ := impl.Unpacked(room[:len(data)])
		spoil(first, written("spoilt", "spoilt", 77))
		if !bytes.Equal(room, before) {
			t.Fatalf("the answer shares memory with %q", before[:len(data)])
		}
		// Texts of an answer, too, are none of the data.
		fresh, _ := impl.Unpacked(bytes.Clone(before[:len(data)]))
		spoil(room, 0xdd)
		third, _ := impl.Unpacked(before[:len(data)])
		if !slices.Equal(second, fresh) || !slices.Equal(third, fresh) || len(want) != len(fresh) {
			t.Fatalf("two answers share memory, or one with %q", before[:len(data)])
		}
	}
}
