package tests

import (
	"fmt"
	"math"
	"math/rand"
	"slices"
	"strings"
	"testing"

	"loop.example/g00217/impl"
)

func written(key string, value string, seq int64) impl.Entry {
	return impl.Entry{Key: key, Value: value, Seq: seq}
}

func goneAt(key string, seq int64) impl.Entry {
	return impl.Entry{Key: key, Seq: seq, Gone: true}
}

// numbered has n entries in order, each with a Key of its own.
func numbered(n int) []impl.Entry {
	list := []impl.Entry{}
	for i := range n {
		list = append(list, written(fmt.Sprintf("k%04d", i), "v", int64(i+1)))
	}
	return list
}

// history has n entries of one Key, in order.
func history(key string, n int) []impl.Entry {
	list := []impl.Entry{}
	for i := range n {
		list = append(list, written(key, "v", int64(n-i)))
	}
	return list
}

// stones are entries of several Keys, some of them Gone, in order.
func stones() []impl.Entry {
	return []impl.Entry{
		written("a", "first", 4),
		goneAt("b", 9),
		written("b", "again", 7),
		goneAt("b", 5),
		written("b", "once", 2),
		written("ba", "", 6),
		goneAt("c", 3),
		written("d", "late", 8),
	}
}

// rightEntries has single entries that are as chapter 3 tells.
func rightEntries() map[string]impl.Entry {
	return map[string]impl.Entry{
		"Key of 1":           written("k", "v", 5),
		"Key of MaxKey":      written(strings.Repeat("k", 40), "v", 5),
		"Key of any byte":    written("\x00\xff\n ä", "v", 5),
		"Key of a nought":    written("\x00", "v", 5),
		"Value empty":        written("k", "", 5),
		"Value of MaxValue":  written("k", strings.Repeat("v", 200), 5),
		"Value of any byte":  written("k", "\x00\xff\n", 5),
		"Seq 1":              written("k", "v", 1),
		"Seq 2":              written("k", "v", 2),
		"Seq MaxSeq":         written("k", "v", 1000000),
		"Gone":               goneAt("k", 5),
		"Gone at MaxSeq":     goneAt("k", 1000000),
		"greatest of all":    written(strings.Repeat("\xff", 40), strings.Repeat("\xff", 200), 1000000),
		"Key of MaxKey gone": goneAt(strings.Repeat("k", 40), 1),
	}
}

// wrongEntries has single entries that are not.
func wrongEntries() map[string]impl.Entry {
	return map[string]impl.Entry{
		"zero Entry":            {},
		"Key of 0":              written("", "v", 5),
		"Key of 0, Gone":        goneAt("", 5),
		"Key of MaxKey + 1":     written(strings.Repeat("k", 41), "v", 5),
		"Key of 40 runes":       written(strings.Repeat("ä", 40), "v", 5),
		"Key of 1000":           written(strings.Repeat("k", 1000), "v", 5),
		"Value of MaxValue + 1": written("k", strings.Repeat("v", 201), 5),
		"Value of 200 runes":    written("k", strings.Repeat("ä", 200), 5),
		"Value of 3000":         written("k", strings.Repeat("v", 3000), 5),
		"Value beside Gone":     {Key: "k", Value: "v", Seq: 5, Gone: true},
		"nought beside Gone":    {Key: "k", Value: "\x00", Seq: 5, Gone: true},
		"Seq 0":                 written("k", "v", 0),
		"Seq 0, Gone":           goneAt("k", 0),
		"Seq -1":                written("k", "v", -1),
		"Seq MaxSeq + 1":        written("k", "v", 1000001),
		"Seq MaxSeq + 1, Gone":  goneAt("k", 1000001),
		"Seq past 32 bits":      written("k", "v", 1<<32+5),
		"Seq least of all":      written("k", "v", math.MinInt64),
		"Seq greatest of all":   written("k", "v", math.MaxInt64),
	}
}

// rightLists has lists that are EntriesOk.
func rightLists() map[string][]impl.Entry {
	lists := map[string][]impl.Entry{
		"nil":                  nil,
		"empty":                {},
		"stones":               stones(),
		"299":                  numbered(299),
		"MaxEntries":           numbered(300),
		"MaxEntries, one Key":  history("k", 300),
		"bytes, not letters":   {written("Z", "", 1), written("a", "", 1), written("ä", "", 1), written("\xff", "", 1)},
		"one begins another":   {written("a", "", 1), written("a\x00", "", 1), written("aa", "", 1), written("b", "", 1)},
		"one Key, greater Seq": {written("k", "x", 2), written("k", "x", 1)},
		"one Key, both ends":   {goneAt("k", 1000000), written("k", "x", 1)},
		"alike Seqs":           {written("k", "x", 7), written("l", "x", 7)},
		"Seqs by number":       {written("k", "x", 10), written("k", "x", 9)},
	}
	for name, e := range rightEntries() {
		lists[name] = []impl.Entry{e}
	}
	return lists
}

// wrongLists has lists that are not.
func wrongLists() map[string][]impl.Entry {
	lists := map[string][]impl.Entry{
		"MaxEntries + 1":           numbered(301),
		"MaxEntries + 1, one Key":  history("k", 301),
		"1000":                     numbered(1000),
		"out of order by Key":      {written("b", "x", 2), written("a", "x", 1)},
		"out of order, Seqs fall":  {written("b", "x", 1), written("a", "x", 2)},
		"out of order at the end":  {written("a", "x", 1), written("c", "x", 2), written("b", "x", 3)},
		"longer one first":         {written("aa", "x", 1), written("a", "x", 2)},
		"letters, not bytes":       {written("a", "", 1), written("Z", "", 1)},
		"signed bytes":             {written("\xff", "", 1), written("a", "", 1)},
		"one Key, lesser Seq":      {written("k", "x", 1), written("k", "x", 2)},
		"one Key, by digits":       {written("k", "x", 9), written("k", "x", 10)},
		"one Key, lesser Seq last": {written("a", "x", 5), written("k", "x", 3), written("k", "x", 1), written("k", "x", 2)},
		"one Key and Seq":          {written("k", "x", 3), written("k", "x", 3)},
		"one Key and Seq, unlike":  {written("k", "x", 3), written("k", "y", 3)},
		"one Key and Seq, Gone":    {goneAt("k", 3), written("k", "y", 3)},
		"one Key apart":            {written("a", "x", 3), written("b", "x", 3), written("a", "x", 2)},
	}
	for name, e := range wrongEntries() {
		lists[name] = []impl.Entry{e}
		ahead, behind := written("A", "x", 1), written("z", "x", 1)
		// Where it has no right Key, an entry stands in the place that its Key asks for.
		lists[name+", between"] = slices.SortedFunc(slices.Values([]impl.Entry{ahead, e, behind}), func(a, b impl.Entry) int { return strings.Compare(a.Key, b.Key) })
	}
	return lists
}

// entriesByRule asks what chapter 3 asks of a list, of each two of it.
func entriesByRule(list []impl.Entry) bool {
	if len(list) > 300 {
		return false
	}
	for i, e := range list {
		if e.Key == "" || len(e.Key) > 40 || len(e.Value) > 200 || e.Gone && e.Value != "" || e.Seq < 1 || e.Seq > 1000000 {
			return false
		}
		for _, later := range list[i+1:] {
			if e.Key > later.Key || e.Key == later.Key && e.Seq <= later.Seq {
				return false
			}
		}
	}
	return true
}

// seenByRule goes through all of a list.
func seenByRule(list []impl.Entry, key string, seq int64) (impl.Entry, bool) {
	best, is := impl.Entry{}, false
	for _, e := range list {
		if e.Key == key && e.Seq <= seq && (!is || e.Seq > best.Seq) {
			best, is = e, true
		}
	}
	return best, is
}

// shownByRule asks for each Key what is seen.
func shownByRule(list []impl.Entry, seq int64) []impl.Entry {
	keys := []string{}
	for _, e := range list {
		keys = append(keys, e.Key)
	}
	slices.Sort(keys)
	shown := []impl.Entry{}
	for _, key := range slices.Compact(keys) {
		if e, is := seenByRule(list, key, seq); is && !e.Gone {
			shown = append(shown, e)
		}
	}
	return shown
}

// anySeqs are numbers ahead of, among and past all that a list may have.
var anySeqs = []int64{math.MinInt64, -1 << 32, -1, 0, 1, 2, 3, 4, 5, 6, 7, 8, 9, 10, 299, 300, 301, 999999, 1000000, 1000001, 1<<32 + 1, math.MaxInt64}

func TestConstantsOfMemory(t *testing.T) {
	if impl.MaxKey != 40 || impl.MaxValue != 200 || impl.MaxSeq != 1000000 || impl.MaxEntries != 300 {
		t.Fatal(impl.MaxKey, impl.MaxValue, impl.MaxSeq, impl.MaxEntries)
	}
}

func TestEntriesOkOfRightLists(t *testing.T) {
	for name, list := range rightLists() {
		if !impl.EntriesOk(list) {
			t.Errorf("%s: refused", name)
		}
	}
}

func TestEntriesOkOfWrongLists(t *testing.T) {
	for name, list := range wrongLists() {
		if impl.EntriesOk(list) {
			t.Errorf("%s: accepted", name)
		}
	}
}

// All lists of at most four over a few entries, right and wrong: EntriesOk just where the rule is kept.
func TestEntriesOkOfAllShortLists(t *testing.T) {
	some := []impl.Entry{
		written("a", "x", 1), written("a", "y", 1), goneAt("a", 2), written("b", "x", 1), written("b", "x", 3),
		written("ab", "", 2), written("", "x", 1), written("a", "x", 0), {Key: "b", Value: "x", Seq: 2, Gone: true},
	}
	lists, right := [][]impl.Entry{{}}, 0
	for at := 0; at < len(lists); at++ {
		list := lists[at]
		ok := impl.EntriesOk(list)
		if ok != entriesByRule(list) {
			t.Fatal(list, ok)
		}
		if ok {
			right++
		}
		if len(list) == 4 {
			continue
		}
		for _, e := range some {
			lists = append(lists, append(slices.Clone(list), e))
		}
	}
	if right == 0 || right == len(lists) {
		t.Fatal(right, len(lists))
	}
}

func TestEntriesOkKeepsOutOfTheSpareRoom(t *testing.T) {
	room := append(stones(), goneAt("", 0), written("a", "x", 1))
	if !impl.EntriesOk(room[:len(stones())]) || impl.EntriesOk(room[:len(stones())+1]) {
		t.Fatal("what is behind a list is none of it")
	}
}

func TestPutInItsPlace(t *testing.T) {
	b5, b3 := written("b", "five", 5), written("b", "three", 3)
	d4 := written("d", "four", 4)
	list := []impl.Entry{b5, b3, d4}
	for name, c := range map[string]struct {
		e    impl.Entry
		want []impl.Entry
	}{
		"in front":                 {written("a", "x", 9), []impl.Entry{written("a", "x", 9), b5, b3, d4}},
		"in front, of a nought":    {written("\x00", "x", 1), []impl.Entry{written("\x00", "x", 1), b5, b3, d4}},
		"between":                  {written("c", "x", 4), []impl.Entry{b5, b3, written("c", "x", 4), d4}},
		"between, of a longer Key": {written("b\x00", "x", 4), []impl.Entry{b5, b3, written("b\x00", "x", 4), d4}},
		"behind":                   {written("e", "x", 1), []impl.Entry{b5, b3, d4, written("e", "x", 1)}},
		"behind, of a high byte":   {written("\xff", "x", 1), []impl.Entry{b5, b3, d4, written("\xff", "x", 1)}},
		"a Key's greatest Seq":     {written("b", "x", 6), []impl.Entry{written("b", "x", 6), b5, b3, d4}},
		"a Key's greatest, by far": {written("b", "x", 1000000), []impl.Entry{written("b", "x", 1000000), b5, b3, d4}},
		"a Key's Seq between":      {written("b", "x", 4), []impl.Entry{b5, written("b", "x", 4), b3, d4}},
		"a Key's least Seq":        {written("b", "x", 1), []impl.Entry{b5, b3, written("b", "x", 1), d4}},
		"the last Key's greater":   {written("d", "x", 5), []impl.Entry{b5, b3, written("d", "x", 5), d4}},
		"the last Key's lesser":    {written("d", "x", 3), []impl.Entry{b5, b3, d4, written("d", "x", 3)}},
		"Gone":                     {goneAt("b", 7), []impl.Entry{goneAt("b", 7), b5, b3, d4}},
		"Gone ahead of all":        {goneAt("b", 2), []impl.Entry{b5, b3, goneAt("b", 2), d4}},
		"an empty Value":           {written("d", "", 9), []impl.Entry{b5, b3, written("d", "", 9), d4}},
	} {
		got, ok := impl.Put(list, c.e)
		if !ok || !slices.Equal(got, c.want) {
			t.Errorf("%s: %v, %v", name, got, ok)
		}
	}
}

func TestPutIntoNothing(t *testing.T) {
	for name, e := range rightEntries() {
		for _, list := range [][]impl.Entry{nil, {}} {
			if got, ok := impl.Put(list, e); !ok || !slices.Equal(got, []impl.Entry{e}) {
				t.Errorf("%s: %v, %v", name, got, ok)
			}
		}
	}
}

func TestPutRefuses(t *testing.T) {
	check := func(name string, list []impl.Entry, e impl.Entry) {
		if got, ok := impl.Put(list, e); ok || len(got) != 0 {
			t.Errorf("%s: %d entries, %v", name, len(got), ok)
		}
	}
	for name, list := range wrongLists() {
		check(name, list, written("m", "x", 500))
		check(name, list, goneAt("zz", 1))
	}
	for name, e := range wrongEntries() {
		check(name, nil, e)
		check(name, stones(), e)
		check(name, numbered(299), e)
	}
	for _, e := range stones() {
		check("it is there", stones(), e)
		check("its Key and Seq are there", stones(), written(e.Key, "another", e.Seq))
		check("its Key and Seq are there, Gone", stones(), goneAt(e.Key, e.Seq))
	}
	check("its Key and Seq are there, alone", []impl.Entry{written("k", "x", 3)}, written("k", "y", 3))
}

func TestPutWhereThereIsNoRoom(t *testing.T) {
	for name, e := range map[string]impl.Entry{
		"in front": written("a", "x", 1),
		"between":  written("k0100a", "x", 1),
		"behind":   written("z", "x", 1),
		"of a Key": written("k0007", "x", 900),
		"there":    numbered(300)[7],
	} {
		if got, ok := impl.Put(numbered(300), e); ok || len(got) != 0 {
			t.Errorf("%s: %d entries, %v", name, len(got), ok)
		}
	}
	for name, e := range map[string]impl.Entry{
		"in front": written("a", "x", 1),
		"between":  written("k0100a", "x", 1),
		"behind":   written("z", "x", 1),
		"of a Key": written("k0007", "x", 900),
	} {
		if got, ok := impl.Put(numbered(299), e); !ok || len(got) != 300 || !impl.EntriesOk(got) || !slices.Contains(got, e) {
			t.Errorf("%s, room for one: %d entries, %v", name, len(got), ok)
		}
	}
	if got, ok := impl.Put(history("k", 300), written("k", "x", 301)); ok || len(got) != 0 {
		t.Error(len(got), ok)
	}
}

func TestSeenAtEachSeq(t *testing.T) {
	list := stones()
	zero := impl.Entry{}
	for _, c := range []struct {
		key  string
		seq  int64
		want impl.Entry
		is   bool
	}{
		{"a", 3, zero, false},
		{"a", 4, list[0], true},
		{"a", 5, list[0], true},
		{"b", 0, zero, false},
		{"b", 1, zero, false},
		{"b", 2, list[4], true},
		{"b", 4, list[4], true},
		{"b", 5, list[3], true},
		{"b", 6, list[3], true},
		{"b", 7, list[2], true},
		{"b", 8, list[2], true},
		{"b", 9, list[1], true},
		{"b", 1000000, list[1], true},
		{"b", 1000001, list[1], true},
		{"b", math.MaxInt64, list[1], true},
		{"b", -1, zero, false},
		{"b", math.MinInt64, zero, false},
		{"ba", 5, zero, false},
		{"ba", 6, list[5], true},
		{"c", 2, zero, false},
		{"c", 3, list[6], true},
		{"d", 7, zero, false},
		{"d", 8, list[7], true},
		// Keys that are not there: ahead of all, between, past all, and none at all.
		{"A", 100, zero, false},
		{"aa", 100, zero, false},
		{"b\x00", 100, zero, false},
		{"bb", 100, zero, false},
		{"bab", 100, zero, false},
		{"e", 100, zero, false},
		{"\xff", math.MaxInt64, zero, false},
		{"", 100, zero, false},
		{"", math.MaxInt64, zero, false},
		{strings.Repeat("a", 41), 100, zero, false},
		{strings.Repeat("b", 5000), 100, zero, false},
	} {
		if got, is := impl.Seen(list, c.key, c.seq); got != c.want || is != c.is {
			t.Errorf("%.9q at %d: %v, %v", c.key, c.seq, got, is)
		}
	}
}

func TestSeenIsTheRule(t *testing.T) {
	for name, list := range rightLists() {
		keys := []string{"", "a", "b", "k", "k0150", "nobody", "\xff"}
		for _, e := range list {
			keys = append(keys, e.Key, e.Key+"\x00", e.Key[:len(e.Key)-1])
		}
		for _, key := range slices.Compact(keys) {
			for _, seq := range anySeqs {
				want, there := seenByRule(list, key, seq)
				if got, is := impl.Seen(list, key, seq); got != want || is != there {
					t.Fatalf("%s: %q at %d: %v, %v", name, key, seq, got, is)
				}
			}
		}
	}
}

func TestSeenOfWrongLists(t *testing.T) {
	for name, list := range wrongLists() {
		for _, e := range append(slices.Clone(list[:min(len(list), 5)]), written("a", "", 1)) {
			for _, seq := range append(slices.Clone(anySeqs), e.Seq) {
				if got, is := impl.Seen(list, e.Key, seq); is || got != (impl.Entry{}) {
					t.Fatalf("%s: %q at %d: %v, %v", name, e.Key, seq, got, is)
				}
			}
		}
	}
}

func TestShownAtEachSeq(t *testing.T) {
	list := stones()
	a, again, once, ba, d := list[0], list[2], list[4], list[5], list[7]
	for _, c := range []struct {
		seq  int64
		want []impl.Entry
	}{
		{math.MinInt64, nil},
		{-1, nil},
		{0, nil},
		{1, nil},
		{2, []impl.Entry{once}},
		{3, []impl.Entry{once}},
		{4, []impl.Entry{a, once}},
		{5, []impl.Entry{a}},
		{6, []impl.Entry{a, ba}},
		{7, []impl.Entry{a, again, ba}},
		{8, []impl.Entry{a, again, ba, d}},
		{9, []impl.Entry{a, ba, d}},
		{10, []impl.Entry{a, ba, d}},
		{1000000, []impl.Entry{a, ba, d}},
		{1000001, []impl.Entry{a, ba, d}},
		{math.MaxInt64, []impl.Entry{a, ba, d}},
	} {
		if got := impl.Shown(list, c.seq); !slices.Equal(got, c.want) {
			t.Errorf("at %d: %v", c.seq, got)
		}
	}
}

func TestShownIsTheRule(t *testing.T) {
	for name, list := range rightLists() {
		for _, seq := range anySeqs {
			got := impl.Shown(list, seq)
			if !slices.Equal(got, shownByRule(list, seq)) || !impl.EntriesOk(got) {
				t.Fatalf("%s at %d: %v", name, seq, got)
			}
		}
	}
}

func TestShownOfAllGone(t *testing.T) {
	list := []impl.Entry{goneAt("a", 2), written("a", "x", 1), goneAt("b", 3)}
	if got := impl.Shown(list, 3); len(got) != 0 {
		t.Error(got)
	}
	if got := impl.Shown(list, 1); !slices.Equal(got, list[1:2]) {
		t.Error(got)
	}
}

func TestShownOfWrongLists(t *testing.T) {
	for name, list := range wrongLists() {
		for _, seq := range anySeqs {
			if got := impl.Shown(list, seq); len(got) != 0 {
				t.Fatalf("%s at %d: %d entries", name, seq, len(got))
			}
		}
	}
}

// anyEntry is of few Keys and Seqs, so that many meet.
func anyEntry(source *rand.Rand, keys []string, seqs int64) impl.Entry {
	e := impl.Entry{Key: keys[source.Intn(len(keys))], Seq: 1 + source.Int63n(seqs)}
	if e.Gone = source.Intn(4) == 0; !e.Gone {
		e.Value = fmt.Sprint("v", source.Intn(1000))
	}
	return e
}

// Promise 3, at each Seq and Key: what is put is seen from its Seq on, until a newer one; all else is as it was.
func TestWhatIsPutIsSeen(t *testing.T) {
	source := rand.New(rand.NewSource(3))
	keys := []string{"a", "aa", "b", "b\x00", "Z", "\xff"}
	for range 60 {
		list := []impl.Entry{}
		for range 40 {
			e := anyEntry(source, keys, 14)
			there := slices.ContainsFunc(list, func(o impl.Entry) bool { return o.Key == e.Key && o.Seq == e.Seq })
			next, ok := impl.Put(list, e)
			if ok == there || !ok && len(next) != 0 {
				t.Fatal(list, e, next, ok)
			}
			if !ok {
				continue
			}
			if len(next) != len(list)+1 || !entriesByRule(next) || !impl.EntriesOk(next) {
				t.Fatal(list, e, next)
			}
			checkPut(t, list, next, e, keys)
			list = next
		}
	}
}

func checkPut(t *testing.T, list []impl.Entry, next []impl.Entry, e impl.Entry, keys []string) {
	t.Helper()
	for seq := int64(0); seq <= 15; seq++ {
		for _, key := range keys {
			want, there := impl.Seen(list, key, seq)
			if key == e.Key && seq >= e.Seq && want.Seq < e.Seq {
				want, there = e, true
			}
			if got, is := impl.Seen(next, key, seq); got != want || is != there {
				t.Fatalf("%v put into %v: %q at %d: %v, %v", e, list, key, seq, got, is)
			}
		}
		if got := impl.Shown(next, seq); !slices.Equal(got, shownByRule(next, seq)) {
			t.Fatalf("%v put into %v: shown at %d: %v", e, list, seq, got)
		}
		if seq < e.Seq && !slices.Equal(impl.Shown(next, seq), impl.Shown(list, seq)) {
			t.Fatalf("%v put into %v changed what was shown at %d", e, list, seq)
		}
	}
}

// In whatever order entries are put, the list is the same.
func TestPutInAnyOrder(t *testing.T) {
	source := rand.New(rand.NewSource(4))
	for _, want := range [][]impl.Entry{stones(), numbered(300), history("k", 300)} {
		for range 5 {
			list := []impl.Entry{}
			for _, i := range source.Perm(len(want)) {
				next, ok := impl.Put(list, want[i])
				if !ok {
					t.Fatal(list, want[i])
				}
				list = next
			}
			if !slices.Equal(list, want) {
				t.Fatal(list)
			}
		}
	}
}

// memoryLists has every list of these tests.
func memoryLists() [][]impl.Entry {
	lists := [][]impl.Entry{}
	for _, list := range rightLists() {
		lists = append(lists, list)
	}
	for _, list := range wrongLists() {
		lists = append(lists, list)
	}
	return lists
}

func memoryEntries() []impl.Entry {
	return []impl.Entry{written("a", "new", 3), written("b", "new", 6), goneAt("zz", 1), written("k0100a", "x", 7), stones()[3], {}}
}

func TestMemoryLeavesItsArguments(t *testing.T) {
	for _, list := range memoryLists() {
		room := append(slices.Clone(list), numbered(40)...)
		before := slices.Clone(room)
		// One argument has room behind it, the other one has none: neither changes an answer.
		wide, tight := room[:len(list)], slices.Clip(slices.Clone(list))
		if impl.EntriesOk(wide) != impl.EntriesOk(tight) {
			t.Fatal("EntriesOk hangs on the room", tight)
		}
		for _, e := range memoryEntries() {
			got, ok := impl.Put(wide, e)
			if want, is := impl.Put(tight, e); ok != is || !slices.Equal(got, want) {
				t.Fatal("Put hangs on the room", tight, e)
			}
			for _, seq := range anySeqs {
				impl.Seen(wide, e.Key, seq)
				if !slices.Equal(impl.Shown(wide, seq), impl.Shown(tight, seq)) {
					t.Fatal("Shown hangs on the room", tight, seq)
				}
			}
		}
		if !slices.Equal(room, before) {
			t.Fatal("an argument was changed", before[:len(list)])
		}
	}
}

func TestMemoryGivesNewMemory(t *testing.T) {
	spoilt := written("spoilt", "spoilt", 77)
	check := func(name string, list []impl.Entry, answer func([]impl.Entry) []impl.Entry) {
		room := append(slices.Clone(list), numbered(40)...)
		before := slices.Clone(room)
		argument := room[:len(list)]
		first := answer(argument)
		want := slices.Clone(first)
		second := answer(argument)
		spoil(first, spoilt)
		if !slices.Equal(room, before) {
			t.Fatalf("%s: the answer shares memory with %v", name, before[:len(list)])
		}
		spoil(room, spoilt)
		if !slices.Equal(second, want) {
			t.Fatalf("%s: the answer shares memory with %v, or with another answer", name, before[:len(list)])
		}
		if third := answer(before[:len(list)]); !slices.Equal(third, want) {
			t.Fatalf("%s: the next answer is another one: %v", name, third)
		}
	}
	for _, list := range memoryLists() {
		for _, e := range memoryEntries() {
			check("Put", list, func(l []impl.Entry) []impl.Entry {
				got, _ := impl.Put(l, e)
				return got
			})
		}
		for _, seq := range anySeqs {
			check("Shown", list, func(l []impl.Entry) []impl.Entry { return impl.Shown(l, seq) })
		}
	}
}
