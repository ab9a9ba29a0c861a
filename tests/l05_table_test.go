package tests

import (
	"fmt"
	"maps"
	"math"
	"math/rand"
	"slices"
	"strings"
	"testing"

	"loop.example/g00217/impl"
)

func marksByRule(key string) [2]int64 {
	return [2]int64{bigDigest(key) % 256, bigDigest(key+"*") % 256}
}

func bitsByRule(list []impl.Entry) []int64 {
	marked := map[int64]int{}
	for _, e := range list {
		for _, mark := range marksByRule(e.Key) {
			marked[mark]++
		}
	}
	return slices.Sorted(maps.Keys(marked))
}

// tableAs has these Blocks, and all else as the entries ask for it.
func tableAs(list []impl.Entry, blocks ...string) impl.Table {
	return impl.Table{First: list[0].Key, Last: list[len(list)-1].Key, Bits: bitsByRule(list), Blocks: blocks}
}

// tableOf has a Block of each group, whether they are right or not.
func tableOf(groups ...[]impl.Entry) impl.Table {
	blocks := []string{}
	for _, group := range groups {
		blocks = append(blocks, string(writtenOut(group)))
	}
	return tableAs(slices.Concat(groups...), blocks...)
}

// inGroups has groups of so many, the last one of what is left.
func inGroups(list []impl.Entry, size int) [][]impl.Entry {
	return slices.Collect(slices.Chunk(list, size))
}

func builtByRule(list []impl.Entry) (impl.Table, bool) {
	if len(list) == 0 || !entriesByRule(list) {
		return impl.Table{}, false
	}
	return tableOf(inGroups(list, 8)...), true
}

// entriesOfTable asks what chapter 5 asks of a table.
func entriesOfTable(x impl.Table) ([]impl.Entry, bool) {
	list := []impl.Entry{}
	for _, block := range x.Blocks {
		group, ok := unpackedByRule([]byte(block))
		if !ok || len(group) == 0 || len(group) > 8 {
			return nil, false
		}
		list = append(list, group...)
	}
	if len(x.Blocks) == 0 || len(x.Blocks) > 40 || !entriesByRule(list) {
		return nil, false
	}
	if want := tableAs(list, x.Blocks...); !sameTable(x, want) {
		return nil, false
	}
	return list, true
}

func mayByRule(x impl.Table, key string) bool {
	_, ok := entriesOfTable(x)
	marks := marksByRule(key)
	return ok && x.First <= key && key <= x.Last && slices.Contains(x.Bits, marks[0]) && slices.Contains(x.Bits, marks[1])
}

func foundByRule(x impl.Table, key string, seq int64) (impl.Entry, bool) {
	list, _ := entriesOfTable(x)
	return seenByRule(list, key, seq)
}

func sameTable(a impl.Table, b impl.Table) bool {
	return a.First == b.First && a.Last == b.Last && slices.Equal(a.Bits, b.Bits) && slices.Equal(a.Blocks, b.Blocks)
}

func tableClone(x impl.Table) impl.Table {
	return impl.Table{First: x.First, Last: x.Last, Bits: slices.Clone(x.Bits), Blocks: slices.Clone(x.Blocks)}
}

// twoBlocks has ten Keys, eight of them in the first Block, and Gone ones in both.
func twoBlocks() []impl.Entry {
	list := []impl.Entry{}
	for i, key := range []string{"b", "c", "d", "e", "f", "g", "h", "i", "j", "k"} {
		e := written(key, "v"+key, int64(10+i))
		if i%5 == 4 {
			e = goneAt(key, int64(10+i))
		}
		list = append(list, e)
	}
	return list
}

// tableLists has right lists of all sizes about those of Blocks, but none that is empty.
func tableLists() map[string][]impl.Entry {
	lists := packLists()
	lists["two Blocks"] = twoBlocks()
	lists["one Key across two Blocks"] = slices.Concat(numbered(5), history("l", 7), []impl.Entry{written("m", "x", 9)})
	lists["one Key of two Blocks alone"] = history("l", 12)
	lists["one mark for both"] = []impl.Entry{written("ur", "x", 3)}
	lists["marks 0 and 255"] = []impl.Entry{written("cx", "x", 3), written("h", "x", 1)}
	for name, list := range lists {
		if len(list) == 0 {
			delete(lists, name)
		}
	}
	return lists
}

// rightTables has tables that are TableOk, by the rule alone: those of the lists in Blocks of 8, and some in other Blocks.
func rightTables() map[string]impl.Table {
	tables := map[string]impl.Table{}
	for name, list := range tableLists() {
		tables[name], _ = builtByRule(list)
	}
	for _, size := range []int{1, 2, 3, 5, 7} {
		tables[fmt.Sprint("stones in Blocks of ", size)] = tableOf(inGroups(stones(), size)...)
		tables[fmt.Sprint("40 Blocks of ", size)] = tableOf(inGroups(numbered(40*size), size)...)
		tables[fmt.Sprint("40 Blocks of ", size, ", one Key")] = tableOf(inGroups(history("k", 40*size), size)...)
	}
	all := numbered(300)
	tables["MaxEntries in 40 Blocks of 7 and 8"] = tableOf(append(inGroups(all[:140], 7), inGroups(all[140:], 8)...)...)
	tables["MaxEntries in 40 Blocks of 8 and 7"] = tableOf(append(inGroups(all[:160], 8), inGroups(all[160:], 7)...)...)
	tables["MaxEntries in 39 Blocks"] = tableOf(append(inGroups(all[:9], 3), inGroups(all[9:], 8)...)...)
	tables["one, and eight"] = tableOf(all[:1], all[1:9])
	tables["eight, one, and eight"] = tableOf(all[:8], all[8:9], all[9:17])
	return tables
}

// wrongBlocks has tables of which the Blocks are wrong; all else is as their entries ask for it.
func wrongBlocks() map[string]impl.Table {
	ten, all := twoBlocks(), numbered(301)
	first, second := string(writtenOut(ten[:8])), string(writtenOut(ten[8:]))
	tables := map[string]impl.Table{
		"no Blocks":                  tableAs(ten),
		"no Blocks, nil":             {First: "b", Last: "k", Bits: bitsByRule(ten), Blocks: nil},
		"41 Blocks of 1":             tableOf(inGroups(all[:41], 1)...),
		"41 Blocks of 7":             tableOf(inGroups(all[:287], 7)...),
		"300 Blocks of 1":            tableOf(inGroups(all[:300], 1)...),
		"40 Blocks of 8":             tableOf(inGroups(numbered(320), 8)...),
		"MaxEntries + 1, 38 Blocks":  tableOf(inGroups(all, 8)...),
		"MaxEntries + 1, 40 Blocks":  tableOf(append(inGroups(all[:133], 7), inGroups(all[133:], 8)...)...),
		"one Block of 9":             tableOf(all[:9]),
		"one Block of 10":            tableOf(ten),
		"one Block of MaxEntries":    tableOf(all[:300]),
		"a Block of 9 first":         tableOf(all[:9], all[9:17]),
		"a Block of 9 last":          tableOf(all[:8], all[8:17]),
		"a Block of none alone":      tableAs(ten, "\x00"),
		"a Block of none first":      tableAs(ten, "\x00", first, second),
		"a Block of none between":    tableAs(ten, first, "\x00", second),
		"a Block of none last":       tableAs(ten, first, second, "\x00"),
		"an empty text alone":        tableAs(ten, ""),
		"an empty text first":        tableAs(ten, "", first, second),
		"an empty text last":         tableAs(ten, first, second, ""),
		"out of order":               tableOf(ten[8:], ten[:8]),
		"out of order, of 1":         tableOf(ten[1:2], ten[:1]),
		"out of order by one":        tableOf(ten[:3], ten[4:6], ten[3:4]),
		"one Block twice":            tableOf(ten[:8], ten[:8]),
		"one entry in two Blocks":    tableOf(ten[:5], ten[4:]),
		"one Key and Seq, unlike":    tableOf(ten[:1], []impl.Entry{written("b", "another", 10)}),
		"one Key, lesser Seq first":  tableOf([]impl.Entry{written("b", "x", 1)}, []impl.Entry{written("b", "x", 2)}),
		"one Key, lesser in a Block": tableOf([]impl.Entry{written("b", "x", 1), written("b", "x", 2)}),
		"a Block that is cut":        tableAs(ten, first, second[:len(second)-1]),
		"the first Block cut":        tableAs(ten, first[:len(first)-1], second),
		"a byte behind a Block":      tableAs(ten, first+"\x00", second),
		"a byte behind the last":     tableAs(ten, first, second+"\x00"),
		"both Blocks in one text":    tableAs(ten, first+second),
		"a Block of no data":         tableAs(ten, first, "stone"),
		"a Block in needless bytes":  tableAs(ten[:1], "\x01\x80\x00\x01b\x14\x02vb"),
		"a Block that leans":         tableAs(history("b", 2), "\x01\x00\x01b\x04\x01v", "\x01\x01\x00\x02\x01v"),
		"a Block of a wrong count":   tableAs(ten[:1], "\x02\x00\x01b\x14\x02vb"),
		"wrong in the middle":        tableAs(all[:24], string(writtenOut(all[:8])), "\xff", string(writtenOut(all[16:24]))),
	}
	for name, list := range wrongLists() {
		// A Seq that no Number tells can't be written at all.
		if !slices.ContainsFunc(list, func(e impl.Entry) bool { return e.Seq < 0 || e.Seq > 1<<39 }) {
			tables[name+", in Blocks"] = tableOf(inGroups(list, 8)...)
			tables[name+", in Blocks of 1"] = tableOf(inGroups(list, 1)...)
		}
	}
	return tables
}

// otherBits has lists of numbers that are near to these, which rise, but not these.
func otherBits(bits []int64) map[string][]int64 {
	last := len(bits) - 1
	behind := func(n int64) []int64 { return append(slices.Clone(bits), n) }
	ahead := func(n int64) []int64 { return append([]int64{n}, bits...) }
	others := map[string][]int64{
		"none":            {},
		"nil":             nil,
		"all":             make([]int64, 256),
		"-1 ahead":        ahead(-1),
		"-256 ahead":      ahead(bits[0] - 256),
		"least ahead":     ahead(math.MinInt64),
		"256 behind":      behind(256),
		"257 behind":      behind(257),
		"512 behind":      behind(bits[last] + 256),
		"past 32 bits":    behind(1<<32 + bits[0]),
		"greatest behind": behind(math.MaxInt64),
		"-1 alone":        {-1},
		"256 alone":       {256},
		"-1 behind":       behind(-1),
		"256 ahead":       ahead(256),
		"first again":     behind(bits[0]),
		"all twice":       slices.Concat(bits, bits),
	}
	for n := range others["all"] {
		others["all"][n] = int64(n)
	}
	if len(bits) > 1 {
		turned := slices.Clone(bits)
		slices.Reverse(turned)
		others["reversed"] = turned
	}
	for i := range bits {
		others[fmt.Sprint("without number ", i)] = slices.Concat(bits[:i], bits[i+1:])
		others[fmt.Sprint("twice number ", i)] = slices.Concat(bits[:i+1], bits[i:])
		others[fmt.Sprint("one above number ", i)] = slices.Concat(bits[:i], []int64{bits[i] + 1}, bits[i+1:])
		others[fmt.Sprint("one below number ", i)] = slices.Concat(bits[:i], []int64{bits[i] - 1}, bits[i+1:])
		if i > 0 {
			others[fmt.Sprint("out of order at ", i)] = slices.Concat(bits[:i-1], []int64{bits[i], bits[i-1]}, bits[i+1:])
		}
	}
	for n := range int64(256) {
		if at, there := slices.BinarySearch(bits, n); !there {
			others[fmt.Sprint("and ", n)] = slices.Insert(slices.Clone(bits), at, n)
		}
	}
	// Of a table with every mark there is, all of them are no other list.
	maps.DeleteFunc(others, func(_ string, other []int64) bool { return slices.Equal(other, bits) })
	return others
}

// wrongTables has tables that are not TableOk.
func wrongTables() map[string]impl.Table {
	tables := wrongBlocks()
	tables["zero Table"] = impl.Table{}
	for _, list := range [][]impl.Entry{twoBlocks(), twoBlocks()[:1], stones(), history("l", 12)} {
		right, _ := builtByRule(list)
		name := fmt.Sprint(len(list), " from ", right.First, ": ")
		for _, key := range []string{"", "a", "bb", "c", "j", "z", "\xff", right.First + "\x00", right.Last + "\x00", right.First + "*"} {
			if key != right.First {
				first := tableClone(right)
				first.First = key
				tables[name+"First "+key] = first
			}
			if key != right.Last {
				last := tableClone(right)
				last.Last = key
				tables[name+"Last "+key] = last
			}
		}
		for what, bits := range otherBits(right.Bits) {
			other := tableClone(right)
			other.Bits = bits
			tables[name+"Bits "+what] = other
		}
	}
	turned, _ := builtByRule(twoBlocks())
	turned.First, turned.Last = turned.Last, turned.First
	tables["First and Last turned"] = turned
	return tables
}

// tableForms has entries and their tables, worked out by hand.
func tableForms() map[string]struct {
	list  []impl.Entry
	table impl.Table
} {
	return map[string]struct {
		list  []impl.Entry
		table impl.Table
	}{
		"one": {
			[]impl.Entry{written("b", "v", 5)},
			impl.Table{First: "b", Last: "b", Bits: []int64{110, 166}, Blocks: []string{"\x01\x00\x01b\x0a\x01v"}},
		},
		"one, Gone": {
			[]impl.Entry{goneAt("k", 1)},
			impl.Table{First: "k", Last: "k", Bits: []int64{175, 201}, Blocks: []string{"\x01\x00\x01k\x03\x00"}},
		},
		"one mark for both": {
			[]impl.Entry{written("ur", "", 1)},
			impl.Table{First: "ur", Last: "ur", Bits: []int64{175}, Blocks: []string{"\x01\x00\x02ur\x02\x00"}},
		},
		"marks 0 and 255": {
			[]impl.Entry{written("cx", "", 1), written("h", "", 1)},
			impl.Table{First: "cx", Last: "h", Bits: []int64{0, 172, 225, 255}, Blocks: []string{"\x02\x00\x02cx\x02\x00\x00\x01h\x02\x00"}},
		},
		"two that share a mark": {
			[]impl.Entry{written("a", "", 1), written("ba", "", 1)},
			impl.Table{First: "a", Last: "ba", Bits: []int64{43, 130, 165}, Blocks: []string{"\x02\x00\x01a\x02\x00\x00\x02ba\x02\x00"}},
		},
		"one Key of two Blocks": {
			history("key", 9),
			impl.Table{First: "key", Last: "key", Bits: []int64{13, 162}, Blocks: []string{
				"\x08\x00\x03key\x12\x01v\x03\x00\x10\x01v\x03\x00\x0e\x01v\x03\x00\x0c\x01v\x03\x00\x0a\x01v\x03\x00\x08\x01v\x03\x00\x06\x01v\x03\x00\x04\x01v",
				"\x01\x00\x03key\x02\x01v",
			}},
		},
	}
}

func TestBuiltOfTheForms(t *testing.T) {
	for name, c := range tableForms() {
		if got, ok := impl.Built(c.list); !ok || !sameTable(got, c.table) {
			t.Errorf("%s: %+v, %v", name, got, ok)
		}
		if got := impl.Entries(c.table); !impl.TableOk(c.table) || !slices.Equal(got, c.list) {
			t.Errorf("%s: %v", name, got)
		}
	}
}

func TestBuiltOfEachSize(t *testing.T) {
	for _, c := range []struct{ entries, blocks, last int }{
		{1, 1, 1}, {2, 1, 2}, {7, 1, 7}, {8, 1, 8}, {9, 2, 1}, {15, 2, 7}, {16, 2, 8}, {17, 3, 1}, {24, 3, 8}, {25, 4, 1},
		{295, 37, 7}, {296, 37, 8}, {297, 38, 1}, {299, 38, 3}, {300, 38, 4},
	} {
		for _, list := range [][]impl.Entry{numbered(c.entries), history("stone", c.entries), great(c.entries), goneOnes(c.entries)} {
			x, ok := impl.Built(list)
			if !ok || !impl.TableOk(x) || len(x.Blocks) != c.blocks {
				t.Fatalf("%d: %d Blocks, %v", c.entries, len(x.Blocks), ok)
			}
			if x.First != list[0].Key || x.Last != list[c.entries-1].Key {
				t.Fatalf("%d: from %q to %q", c.entries, x.First, x.Last)
			}
			for i, block := range x.Blocks {
				size := 8
				if i == c.blocks-1 {
					size = c.last
				}
				if group := list[8*i : 8*i+size]; block != string(packedByRule(group)) || block != string(impl.Packed(group)) {
					t.Fatalf("%d: Block %d: %q", c.entries, i, block)
				}
			}
		}
	}
}

func TestBitsRiseAndMarkTheKeys(t *testing.T) {
	for name, list := range tableLists() {
		x, _ := impl.Built(list)
		for i, n := range x.Bits {
			if n < 0 || n > 255 || i > 0 && x.Bits[i-1] >= n {
				t.Fatalf("%s: %v", name, x.Bits)
			}
		}
		marked := map[int64]int{}
		for _, e := range list {
			marked[impl.Digest(e.Key)%256]++
			marked[impl.Digest(e.Key+"*")%256]++
		}
		for _, n := range x.Bits {
			if marked[n] == 0 {
				t.Fatalf("%s: %d marks no Key", name, n)
			}
		}
		if len(x.Bits) != len(marked) {
			t.Fatalf("%s: %d marks, not %d", name, len(x.Bits), len(marked))
		}
	}
}

func TestBuiltIsTheRule(t *testing.T) {
	for name, list := range tableLists() {
		want, _ := builtByRule(list)
		if got, ok := impl.Built(list); !ok || !sameTable(got, want) {
			t.Errorf("%s: %+v, %v", name, got, ok)
		}
	}
}

// Every mark there is, all 256 of them, from enough Keys.
func TestBuiltOfEveryMark(t *testing.T) {
	marked, list := map[int64]int{}, []impl.Entry{}
	for _, key := range allOver([]byte("abcdefghijklmnop"), 3)[1:] {
		marks := marksByRule(string(key))
		if marked[marks[0]]+marked[marks[1]] == 0 || marked[marks[0]]*marked[marks[1]] == 0 && len(marked) > 200 {
			list = append(list, written(string(key), "", 1))
			marked[marks[0]]++
			marked[marks[1]]++
		}
	}
	slices.SortFunc(list, func(a, b impl.Entry) int { return strings.Compare(a.Key, b.Key) })
	x, ok := impl.Built(list)
	if !ok || len(x.Bits) != 256 || x.Bits[0] != 0 || x.Bits[255] != 255 || !impl.TableOk(x) {
		t.Fatal(len(list), len(marked), len(x.Bits), ok)
	}
	for i := range x.Bits {
		less := tableClone(x)
		less.Bits = slices.Delete(less.Bits, i, i+1)
		if impl.TableOk(less) {
			t.Fatal("without", i)
		}
	}
	if !impl.May(x, "b") || !impl.May(x, "cz") || impl.May(x, "z") {
		t.Fatal("with every mark there is, each key from First to Last may be there")
	}
}

func TestBuiltRefuses(t *testing.T) {
	lists := wrongLists()
	lists["nil"], lists["none"], lists["none, but room"] = nil, []impl.Entry{}, stones()[:0]
	for name, list := range lists {
		if got, ok := impl.Built(list); ok || !sameTable(got, impl.Table{}) {
			t.Errorf("%s: %.99q, %v", name, fmt.Sprint(got), ok)
		}
	}
}

func TestTableOkOfRightTables(t *testing.T) {
	for name, x := range rightTables() {
		if _, ok := entriesOfTable(x); !ok || !impl.TableOk(x) {
			t.Errorf("%s: refused, by the rule %v", name, !ok)
		}
	}
}

func TestTableOkOfWrongTables(t *testing.T) {
	for name, x := range wrongTables() {
		if _, ok := entriesOfTable(x); ok || impl.TableOk(x) {
			t.Errorf("%s: accepted, by the rule %v", name, ok)
		}
	}
}

// All lists of at most four Bits over a few numbers: a table is right just with its own.
func TestTableOkOfAllShortBits(t *testing.T) {
	x, _ := impl.Built([]impl.Entry{written("b", "v", 5)})
	some, lists, right := []int64{-90, -1, 0, 109, 110, 166, 167, 255, 256, 366}, [][]int64{{}}, 0
	for at := 0; at < len(lists); at++ {
		x.Bits = lists[at]
		if ok := impl.TableOk(x); ok != slices.Equal(x.Bits, []int64{110, 166}) {
			t.Fatal(x.Bits, ok)
		} else if ok {
			right++
		}
		for _, n := range some {
			if len(x.Bits) < 4 {
				lists = append(lists, append(slices.Clone(x.Bits), n))
			}
		}
	}
	if right != 1 || len(lists) != 11111 {
		t.Fatal(right, len(lists))
	}
}

// However right entries are shared out to Blocks of 1 to 8, the table is right, and has them all.
func TestTablesOfAnyBlocks(t *testing.T) {
	source := rand.New(rand.NewSource(8))
	right, wrong := 0, 0
	for range 400 {
		rest, groups := anyRightList(source, 1+source.Intn(80)), [][]impl.Entry{}
		list, most := rest, 3+source.Intn(7)
		for len(rest) > 0 {
			size := min(len(rest), 1+source.Intn(most))
			groups = append(groups, rest[:size])
			rest = rest[size:]
		}
		tooGreat := slices.ContainsFunc(groups, func(group []impl.Entry) bool { return len(group) > 8 })
		x := tableOf(groups...)
		ok := impl.TableOk(x)
		if ok != (len(groups) <= 40 && !tooGreat) {
			t.Fatal(len(groups), tooGreat, ok)
		}
		if got := impl.Entries(x); ok && !slices.Equal(got, list) || !ok && len(got) != 0 {
			t.Fatal(got, list)
		}
		if ok {
			right++
		} else {
			wrong++
		}
	}
	if right < 100 || wrong < 20 {
		t.Fatal(right, wrong)
	}
}

func TestEntriesOfTables(t *testing.T) {
	for name, x := range rightTables() {
		want, _ := entriesOfTable(x)
		if got := impl.Entries(x); len(got) == 0 || !slices.Equal(got, want) {
			t.Errorf("%s: %v", name, got)
		}
	}
	for name, x := range wrongTables() {
		if got := impl.Entries(x); len(got) != 0 {
			t.Errorf("%s: %d entries", name, len(got))
		}
	}
}

// Promise 5.
func TestEntriesOfBuilt(t *testing.T) {
	for name, list := range tableLists() {
		x, ok := impl.Built(list)
		if got := impl.Entries(x); !ok || !slices.Equal(got, list) {
			t.Errorf("%s: %v", name, got)
		}
	}
}

func TestMayOfTheForms(t *testing.T) {
	// The marks of a are 165 and 43, those of d 168 and 244.
	x, _ := impl.Built([]impl.Entry{written("a", "v", 2), goneAt("d", 1)})
	for key, want := range map[string]bool{
		"a": true,
		"d": true,
		// Both marks are among Bits, though the key is not there.
		"cay":  true,
		"abrd": true,
		"ajka": true,
		// Of these the first one is, or the second one.
		"ba":  false,
		"bd":  false,
		"cm":  false,
		"cd":  false,
		"cf":  false,
		"ci":  false,
		"aax": false,
		// Of these none is.
		"b":     false,
		"c":     false,
		"aa":    false,
		"a*":    false,
		"a\x00": false,
		// These are out of range.
		"":     false,
		"\x00": false,
		"A":    false,
		"e":    false,
		"z":    false,
		"\xff": false,
	} {
		if got := impl.May(x, key); got != want || mayByRule(x, key) != want {
			t.Errorf("%q: %v", key, got)
		}
		if _, is := impl.Found(x, key, 9); is != (key == "a" || key == "d") {
			t.Errorf("%q: found %v", key, is)
		}
	}
}

// keysWith has keys that begin with text and have both marks among Bits.
func keysWith(bits []int64, text string, n int) []string {
	keys := []string{}
	for i := 0; len(keys) < n; i++ {
		key := fmt.Sprint(text, i)
		marks := marksByRule(key)
		if slices.Contains(bits, marks[0]) && slices.Contains(bits, marks[1]) {
			keys = append(keys, key)
		}
	}
	return keys
}

func TestMayOutOfRange(t *testing.T) {
	x, _ := impl.Built(twoBlocks())
	for _, text := range []string{"A", "a", "az", "\x00"} {
		for _, key := range keysWith(x.Bits, text, 3) {
			if impl.May(x, key) {
				t.Errorf("%q, ahead of First", key)
			}
		}
	}
	for _, text := range []string{"k", "kb", "l", "z", "\xff"} {
		for _, key := range keysWith(x.Bits, text, 3) {
			if impl.May(x, key) {
				t.Errorf("%q, behind Last", key)
			}
		}
	}
	// A key that no Entry could have is asked for by its marks all the same.
	for _, text := range []string{"b", "j", "jz", "c" + strings.Repeat("x", 40), "d" + strings.Repeat("x", 5000)} {
		for _, key := range keysWith(x.Bits, text, 3) {
			if !impl.May(x, key) {
				t.Errorf("%.50q, with both marks", key)
			}
		}
	}
}

// askedKeys has keys that are there, near to those, and anywhere else.
func askedKeys(list []impl.Entry) []string {
	keys := []string{"", "a", "b", "k", "k0150", "nobody", "\xff", strings.Repeat("k", 41)}
	for i, e := range list {
		if i < 20 || i+20 > len(list) {
			keys = append(keys, e.Key, e.Key+"\x00", e.Key[:len(e.Key)-1], e.Key+"*")
		}
	}
	for i := range 60 {
		keys = append(keys, fmt.Sprintf("k%04dx", 5*i), fmt.Sprint("b", i), fmt.Sprint("stone", i))
	}
	slices.Sort(keys)
	return slices.Compact(keys)
}

func TestMayIsTheRule(t *testing.T) {
	yes, no := 0, 0
	for name, x := range rightTables() {
		list := impl.Entries(x)
		for _, key := range askedKeys(list) {
			marks := marksByRule(key)
			want := x.First <= key && key <= x.Last && slices.Contains(x.Bits, marks[0]) && slices.Contains(x.Bits, marks[1])
			got := impl.May(x, key)
			if got != want {
				t.Fatalf("%s: %q: %v", name, key, got)
			}
			if there := slices.ContainsFunc(list, func(e impl.Entry) bool { return e.Key == key }); there && !got {
				t.Fatalf("%s: %q is there", name, key)
			} else if !there && got {
				yes++
			} else if !there {
				no++
			}
		}
	}
	if yes < 100 || no < 100 {
		t.Fatal(yes, no)
	}
}

// Promise 5: what May not be there is not there, at any Seq.
func TestWhatMayNotBeThereIsNotThere(t *testing.T) {
	source := rand.New(rand.NewSource(9))
	mayNot := 0
	for range 60 {
		list := anyRightList(source, 1+source.Intn(30))
		x, ok := impl.Built(list)
		if got := impl.Entries(x); !ok || !slices.Equal(got, list) {
			t.Fatalf("%v: %v", list, got)
		}
		for _, key := range askedKeys(anyRightList(source, 20)) {
			may := impl.May(x, key)
			if may != mayByRule(x, key) {
				t.Fatalf("%v: %q: %v", list, key, may)
			}
			if may {
				continue
			}
			mayNot++
			if slices.ContainsFunc(list, func(e impl.Entry) bool { return e.Key == key }) {
				t.Fatalf("%v: %q is there", list, key)
			}
			if e, is := impl.Found(x, key, math.MaxInt64); is || e != (impl.Entry{}) {
				t.Fatalf("%v: %q: %v", list, key, e)
			}
		}
	}
	if mayNot < 1000 {
		t.Fatal(mayNot)
	}
}

func TestFoundOfEachKey(t *testing.T) {
	for name, x := range rightTables() {
		list, _ := entriesOfTable(x)
		for i, e := range list {
			if i > 20 && i < len(list)-20 {
				continue
			}
			for _, seq := range []int64{e.Seq - 1, e.Seq, e.Seq + 1, math.MinInt64, 0, math.MaxInt64} {
				want, there := seenByRule(list, e.Key, seq)
				if got, is := impl.Found(x, e.Key, seq); got != want || is != there {
					t.Fatalf("%s: %q at %d: %v, %v", name, e.Key, seq, got, is)
				}
			}
			if got, is := impl.Found(x, e.Key, e.Seq); !is || got != e {
				t.Fatalf("%s: %v at its Seq: %v, %v", name, e, got, is)
			}
		}
	}
}

func TestFoundOfTheStones(t *testing.T) {
	list, zero := stones(), impl.Entry{}
	for _, groups := range [][][]impl.Entry{{list}, inGroups(list, 3), inGroups(list, 1), {list[:2], list[2:]}} {
		x := tableOf(groups...)
		for _, c := range []struct {
			key  string
			seq  int64
			want impl.Entry
			is   bool
		}{
			{"a", 3, zero, false}, {"a", 4, list[0], true}, {"a", 1000001, list[0], true},
			{"b", 1, zero, false}, {"b", 2, list[4], true}, {"b", 4, list[4], true}, {"b", 5, list[3], true}, {"b", 6, list[3], true},
			{"b", 7, list[2], true}, {"b", 8, list[2], true}, {"b", 9, list[1], true}, {"b", math.MaxInt64, list[1], true},
			{"b", 0, zero, false}, {"b", -1, zero, false}, {"b", math.MinInt64, zero, false},
			{"ba", 6, list[5], true}, {"c", 2, zero, false}, {"c", 3, list[6], true}, {"d", 7, zero, false}, {"d", 8, list[7], true},
			{"", 9, zero, false}, {"A", 9, zero, false}, {"aa", 9, zero, false}, {"b\x00", 9, zero, false}, {"bb", 9, zero, false},
			{"e", 9, zero, false}, {"\xff", 9, zero, false}, {strings.Repeat("b", 41), 9, zero, false},
		} {
			if got, is := impl.Found(x, c.key, c.seq); got != c.want || is != c.is {
				t.Errorf("%d Blocks: %q at %d: %v, %v", len(groups), c.key, c.seq, got, is)
			}
		}
	}
}

// A Key that is in two Blocks is found in the one that has the Seq.
func TestFoundAcrossTwoBlocks(t *testing.T) {
	x, _ := impl.Built(history("l", 12))
	for seq := int64(-1); seq <= 14; seq++ {
		got, is := impl.Found(x, "l", seq)
		if is != (seq > 0) || is && got != written("l", "v", min(seq, 12)) || !is && got != (impl.Entry{}) {
			t.Errorf("at %d: %v, %v", seq, got, is)
		}
	}
}

func TestMayAndFoundOfWrongTables(t *testing.T) {
	for name, x := range wrongTables() {
		keys := []string{x.First, x.Last, "", "b", "c", "k", "k0003", "l"}
		for _, key := range keys {
			if impl.May(x, key) {
				t.Fatalf("%s: %.9q may be there", name, key)
			}
			for _, seq := range []int64{math.MinInt64, 0, 1, 9, 10, 11, 1000000, math.MaxInt64} {
				if got, is := impl.Found(x, key, seq); is || got != (impl.Entry{}) {
					t.Fatalf("%s: %.9q at %d: %v, %v", name, key, seq, got, is)
				}
			}
		}
	}
}

// anyChange changes one thing of a table, which may be right all the same.
func anyChange(source *rand.Rand, x impl.Table) impl.Table {
	x = tableClone(x)
	at, bit := source.Intn(len(x.Blocks)), source.Intn(len(x.Bits))
	switch source.Intn(9) {
	case 0:
		x.First = x.Last
	case 1:
		x.Last += string(rune('a' + source.Intn(3)))
	case 2:
		x.Bits[bit] += source.Int63n(3) - 1
	case 3:
		x.Bits = slices.Insert(x.Bits, bit, source.Int63n(256))
	case 4:
		x.Bits = slices.Delete(x.Bits, bit, bit+1)
	case 5:
		x.Blocks[at] = string(changed(source, []byte(x.Blocks[at])))
	case 6:
		x.Blocks = slices.Insert(x.Blocks, at, x.Blocks[source.Intn(len(x.Blocks))])
	case 7:
		other := source.Intn(len(x.Blocks))
		x.Blocks[at], x.Blocks[other] = x.Blocks[other], x.Blocks[at]
	case 8:
		// A Block less, and Bits and keys as those that are left ask for it: right, unless it was the only one.
		x.Blocks = slices.Delete(x.Blocks, at, at+1)
		list := []impl.Entry{}
		for _, block := range x.Blocks {
			group, _ := unpackedByRule([]byte(block))
			list = append(list, group...)
		}
		if len(list) > 0 {
			x = tableAs(list, x.Blocks...)
		}
	}
	return x
}

func TestTablesWithAnythingChanged(t *testing.T) {
	source := rand.New(rand.NewSource(10))
	right, wrong := 0, 0
	for range 1500 {
		x, _ := builtByRule(append(anyRightList(source, source.Intn(40)), written("\xff\xff\xff\xff", "last", 3)))
		x = anyChange(source, x)
		want, is := entriesOfTable(x)
		if ok := impl.TableOk(x); ok != is {
			t.Fatalf("%+v: %v", x, ok)
		}
		if got := impl.Entries(x); !slices.Equal(got, want) {
			t.Fatalf("%+v: %v", x, got)
		}
		for _, key := range []string{x.First, x.Last, "a", "ab", "bb", ""} {
			if got := impl.May(x, key); got != mayByRule(x, key) {
				t.Fatalf("%+v: May of %q is %v", x, key, got)
			}
			seq := source.Int63n(1000002)
			found, there := foundByRule(x, key, seq)
			if got, is := impl.Found(x, key, seq); got != found || is != there {
				t.Fatalf("%+v: %q at %d: %v, %v", x, key, seq, got, is)
			}
		}
		if is {
			right++
		} else {
			wrong++
		}
	}
	if right < 100 || wrong < 500 {
		t.Fatal(right, wrong)
	}
}

// withRoom has the table's lists with so much behind them as may tempt; and all of both lists, to be looked at later.
func withRoom(x impl.Table) (impl.Table, []int64, []string) {
	bits := append(slices.Clone(x.Bits), 0, 256, -1, 7, 300)
	blocks := append(slices.Clone(x.Blocks), "\x01\x00\x01z\x02\x00", "", "stone", "\x00")
	return impl.Table{First: x.First, Last: x.Last, Bits: bits[:len(x.Bits)], Blocks: blocks[:len(x.Blocks)]}, bits, blocks
}

func someTables() map[string]impl.Table {
	tables := rightTables()
	for name, x := range wrongTables() {
		if !strings.Contains(name, "Bits and") {
			tables["wrong: "+name] = x
		}
	}
	return tables
}

func TestTablesLeaveTheirArguments(t *testing.T) {
	for name, x := range someTables() {
		wide, bits, blocks := withRoom(x)
		bitsBefore, blocksBefore := slices.Clone(bits), slices.Clone(blocks)
		_, right := entriesOfTable(x)
		if impl.TableOk(wide) != right || !slices.Equal(impl.Entries(wide), impl.Entries(tableClone(x))) {
			t.Fatal("an answer hangs on the room:", name)
		}
		for _, key := range []string{x.First, x.Last, "b", "z", ""} {
			want, there := impl.Found(x, key, 9)
			if got, is := impl.Found(wide, key, 9); got != want || is != there || impl.May(wide, key) != impl.May(x, key) {
				t.Fatal("an answer hangs on the room:", name, key)
			}
		}
		if !slices.Equal(bits, bitsBefore) || !slices.Equal(blocks, blocksBefore) {
			t.Fatal("an argument was changed:", name)
		}
	}
	for _, list := range append(memoryLists(), great(300), twoBlocks()) {
		room := append(slices.Clone(list), numbered(40)...)
		before := slices.Clone(room)
		got, ok := impl.Built(room[:len(list)])
		if want, is := impl.Built(slices.Clip(slices.Clone(list))); ok != is || !sameTable(got, want) {
			t.Fatal("Built hangs on the room", list)
		}
		if !slices.Equal(room, before) {
			t.Fatal("an argument was changed", before[:len(list)])
		}
	}
}

func TestBuiltGivesNewMemory(t *testing.T) {
	for name, list := range tableLists() {
		room := append(slices.Clone(list), numbered(40)...)
		before := slices.Clone(room)
		first, _ := impl.Built(room[:len(list)])
		want := tableClone(first)
		second, _ := impl.Built(room[:len(list)])
		spoil(first.Bits, -77)
		spoil(first.Blocks, "spoilt")
		if !slices.Equal(room, before) {
			t.Fatal("the answer shares memory with the entries:", name)
		}
		spoil(room, written("spoilt", "spoilt", 77))
		third, _ := impl.Built(before[:len(list)])
		if !sameTable(second, want) || !sameTable(third, want) {
			t.Fatal("two answers share memory, or one with the entries:", name)
		}
	}
}

func TestEntriesGiveNewMemory(t *testing.T) {
	for name, x := range someTables() {
		wide, bits, blocks := withRoom(x)
		first := impl.Entries(wide)
		want := slices.Clone(first)
		second := impl.Entries(wide)
		spoil(first, written("spoilt", "spoilt", 77))
		if !sameTable(wide, x) {
			t.Fatal("the answer shares memory with the table:", name)
		}
		spoil(bits, -77)
		spoil(blocks, "spoilt")
		if third := impl.Entries(x); !slices.Equal(second, want) || !slices.Equal(third, want) {
			t.Fatal("two answers share memory, or one with the table:", name)
		}
	}
}
